/-
  percent.Canonical, Is, Escapes, Cut and Offset for every text, set and number.
-/
import Derived.Test.YtheajdgdllobbaaPDec2
import Derived.Test.YtheajdgdllobbaaPOff
import Derived.Lib.LastIndexByte
namespace Go.Proofs.Ytheajdgdllobbaa
open Go.RowKit
attribute [local go_sem] ba_get ba_take w_0 w_1 w_2 w_3
/-- Behind what begins at i, when all before is whole: each percent sign has two bytes behind it. -/
def Bd (l : List UInt8) (i : Nat) : Prop := ∀ p, p < i → l[p]? = some 37 → p + 3 ≤ i
theorem isHex_not37 {b : UInt8} (h : isHex b = true) : b ≠ 37 := by
  intro e
  subst e
  cases h
theorem Bd.next {l t : List UInt8} {i : Nat} (h : Bd l i) (hi : i < l.length) (hd : decL (l.drop i) i = .ok t) : Bd l (i + stepB (l.drop i)) ∧ (stepB (l.drop i) = 3 ↔ l[i]? = some 37) ∧ (stepB (l.drop i) = 1 ∨ stepB (l.drop i) = 3) := by
  cases he : escB (l.drop i)
  · have hs : stepB (l.drop i) = 1 := by unfold stepB; rw [he]; rfl
    have hc : l[i] ≠ 37 := by
      intro e
      rw [List.drop_eq_getElem_cons hi, e] at hd he
      rw [decL_bad i he] at hd
      cases hd
    have hc2 : l[i]? ≠ some 37 := by
      rw [List.getElem?_eq_getElem hi]
      intro e
      injection e with e
      exact hc e
    rw [hs]
    refine ⟨fun p hp e => ?_, ⟨fun e => by omega, fun e => absurd e hc2⟩, Or.inl rfl⟩
    by_cases hpi : p = i
    · rw [hpi] at e; exact absurd e hc2
    · have := h p (by omega) e; omega
  · have hs : stepB (l.drop i) = 3 := by unfold stepB; rw [he]; rfl
    have h3 : i + 2 < l.length := by
      apply Classical.byContradiction
      intro hn
      rw [escB_short (by omega)] at he
      cases he
    have hE := escB_at h3
    rw [he] at hE
    have hE3 := Bool.and_eq_true_iff.1 hE.symm
    have hE4 := Bool.and_eq_true_iff.1 hE3.1
    have x0 : l[i] = 37 := by simpa using hE4.1
    have x1 := isHex_not37 hE4.2
    have x2 := isHex_not37 hE3.2
    rw [hs]
    refine ⟨fun p hp e => ?_, ⟨fun _ => by rw [List.getElem?_eq_getElem hi, x0], fun _ => rfl⟩, Or.inr rfl⟩
    by_cases hp1 : p = i + 1
    · subst hp1
      rw [List.getElem?_eq_getElem (by omega)] at e
      injection e with e
      exact absurd e x1
    · by_cases hp2 : p = i + 2
      · subst hp2
        rw [List.getElem?_eq_getElem (by omega)] at e
        injection e with e
        exact absurd e x2
      · by_cases hpi : p = i
        · omega
        · have := h p (by omega) e; omega
theorem dec_next {l t : List UInt8} {i : Nat} (hi : i < l.length) (hd : decL (l.drop i) i = .ok t) : ∃ c t', t = c :: t' ∧ decL (l.drop (i + stepB (l.drop i))) (i + stepB (l.drop i)) = .ok t' := by
  cases he : escB (l.drop i)
  · have hs : stepB (l.drop i) = 1 := by unfold stepB; rw [he]; rfl
    rw [hs]
    have hx := List.drop_eq_getElem_cons hi
    rw [hx] at hd he
    by_cases hc : l[i] = 37
    · rw [hc] at he hd
      rw [decL_bad i he] at hd
      cases hd
    · rw [decL_plain i hc] at hd
      cases hy : decL (l.drop (i + 1)) (i + 1) with
      | error e => rw [hy] at hd; cases hd
      | ok t' =>
        rw [hy] at hd
        injection hd with hd
        exact ⟨_, t', hd.symm, rfl⟩
  · have hs : stepB (l.drop i) = 3 := by unfold stepB; rw [he]; rfl
    rw [hs]
    rw [decL_esc i he, List.drop_drop] at hd
    cases hy : decL (l.drop (i + 3)) (i + 3) with
    | error e => rw [hy] at hd; cases hd
    | ok t' =>
      rw [hy] at hd
      injection hd with hd
      exact ⟨_, t', hd.symm, rfl⟩
/-- Where cutF ends: a whole beginning, of at most n bytes, behind which nothing whole fits. -/
theorem cutF_spec {l : List UInt8} {n : Int} : ∀ (k i : Nat) (t : List UInt8), l.length ≤ k + i → i ≤ l.length → (i : Int) ≤ n → Bd l i → decL (l.drop i) i = .ok t →
    ∃ c t', cutF l n k i = c ∧ i ≤ c ∧ c ≤ l.length ∧ (c : Int) ≤ n ∧ Bd l c ∧ decL (l.drop c) c = .ok t' ∧ (c = l.length ∨ n < (c : Int) + (stepB (l.drop c) : Nat))
  | 0, i, t, hk, hi, hn, hb, hd => ⟨i, t, rfl, Nat.le_refl _, hi, hn, hb, hd, Or.inl (by omega)⟩
  | k + 1, i, t, hk, hi, hn, hb, hd => by
    by_cases hc : i < l.length ∧ (i : Int) + (stepB (l.drop i) : Nat) ≤ n
    · obtain ⟨c0, t', -, hd'⟩ := dec_next hc.1 hd
      have hb' := (hb.next hc.1 hd).1
      obtain ⟨p1, p2, p3⟩ := stepB_le hc.1
      obtain ⟨c, t2, e, h1, h2⟩ := cutF_spec (n := n) k (i + stepB (l.drop i)) t' (by omega) p3 (by omega) hb' hd'
      exact ⟨c, t2, by rw [cutF, if_pos hc]; exact e, by omega, h2⟩
    · refine ⟨i, t, cutF_stop hc _, Nat.le_refl _, hi, hn, hb, hd, ?_⟩
      by_cases e : i = l.length
      · exact Or.inl e
      · right
        have : ¬ (i : Int) + (stepB (l.drop i) : Nat) ≤ n := fun h => hc ⟨by omega, h⟩
        omega
/-- What the program cuts off, by the last percent sign of the beginning. -/
def endOf (l : List UInt8) (n : Int) : Nat := (min n (l.length : Int)).toNat
def lastOf (l : List UInt8) (n : Int) : Int := Lib.lastIndexByte ⟨(l.take (endOf l n)).toArray⟩ 37
theorem ba_bang (l : List UInt8) (i : Nat) (h : i < l.length) : (ByteArray.mk l.toArray).data[i]! = l[i] := by
  simp [h]
theorem last_cases (l : List UInt8) (e : Nat) (he : e ≤ l.length) :
    (Lib.lastIndexByte ⟨(l.take e).toArray⟩ 37 = -1 ∧ ∀ p, p < e → l[p]? ≠ some 37) ∨ ∃ q : Nat, q < e ∧ Lib.lastIndexByte ⟨(l.take e).toArray⟩ 37 = q ∧ l[q]? = some 37 ∧ ∀ p, q < p → p < e → l[p]? ≠ some 37 := by
  have hsz : (ByteArray.mk (l.take e).toArray).size = e := by show (l.take e).toArray.size = e; simp; omega
  have hb : ∀ i, i < e → ((ByteArray.mk (l.take e).toArray).data[i]!).toNat = ((l[i]?).getD 0).toNat := fun i hi => by
    rw [ba_bang _ _ (by simp; omega), List.getElem_take, List.getElem?_eq_getElem (by omega)]; rfl
  have h37 : ∀ i, i < e → ((((l[i]?).getD 0).toNat : Int) = 37 ↔ l[i]? = some 37) := fun i hi => by
    rw [List.getElem?_eq_getElem (show i < l.length by omega)]
    constructor
    · intro h
      have h : ((l[i]).toNat : Int) = 37 := h
      have : (l[i]).toNat = 37 := by omega
      rw [UInt8.toNat_inj.1 (show (l[i]).toNat = (37 : UInt8).toNat from this)]
    · intro h
      injection h with h
      show ((l[i]).toNat : Int) = 37
      rw [h]; rfl
  rcases Lib.lastIndexByte_spec ⟨(l.take e).toArray⟩ 37 with ⟨h1, h2⟩ | ⟨q, h1, h2, h3, h4⟩
  · refine Or.inl ⟨h1, fun p hp hx => h2 p (by omega) ?_⟩
    rw [hb p hp]; exact (h37 p hp).2 hx
  · rw [hsz] at h1 h4
    refine Or.inr ⟨q, h1, h2, ?_, fun p hp hpe hx => h4 p hp hpe ?_⟩
    · rw [hb q h1] at h3; exact (h37 q h1).1 h3
    · rw [hb p hpe]; exact (h37 p hpe).2 hx
theorem endOf_le (l : List UInt8) (n : Int) : endOf l n ≤ l.length := by unfold endOf; omega
theorem cut_same {l t : List UInt8} {n : Int} (hn : 0 ≤ n) (hd : decL l 0 = .ok t) :
    (if 0 ≤ lastOf l n ∧ (endOf l n : Int) - lastOf l n < 3 then lastOf l n else (endOf l n : Int)) = (cutF l n l.length 0 : Nat) := by
  obtain ⟨c, t', hc, -, hcl, hcn, hb, hdc, hend⟩ := cutF_spec (l := l) (n := n) l.length 0 t (by omega) (by omega) hn (fun p hp => by omega) hd
  rw [hc]
  have he : endOf l n ≤ l.length := endOf_le l n
  have heq : (endOf l n : Int) = min n (l.length : Int) := by unfold endOf; omega
  unfold lastOf
  generalize endOf l n = e at *
  have hce : c ≤ e := by omega
  by_cases h : c = e
  · subst h
    rcases last_cases l c he with ⟨h1, -⟩ | ⟨q, hq, h1, h2, -⟩
    · rw [h1, if_neg (by omega)]
    · have := hb q hq h2
      rw [h1, if_neg (by omega)]
  · have hlt : c < l.length := by omega
    obtain ⟨p1, p2, p3⟩ := stepB_le hlt
    obtain ⟨hb2, h37, hor⟩ := hb.next hlt hdc
    have hs : stepB (l.drop c) = 3 := by omega
    have hc37 := h37.1 hs
    rw [hs] at hb2
    rcases last_cases l e he with ⟨h1, h2⟩ | ⟨q, hq, h1, h2, h3⟩
    · exact absurd hc37 (h2 c (by omega))
    · have hq1 : ¬ q < c := fun h => h3 c h (by omega) hc37
      have hq2 : q = c := by
        apply Classical.byContradiction
        intro hne
        have := hb2 q (by omega) h2
        omega
      rw [h1, hq2, if_pos (by omega)]
/-- How many escapes there are. -/
theorem count_same : ∀ (k : Nat) (l : List UInt8) (i : Nat) (t : List UInt8), decF k l i = .ok t → 2 * l.count 37 + t.length = l.length
  | k, [], i, t, h => by
    have h2 : decF k [] i = .ok [] := by cases k <;> rfl
    rw [h2] at h
    injection h with h
    rw [← h]; rfl
  | 0, _ :: _, _, t, h => by simp [decF] at h
  | k + 1, c :: r, i, t, h => by
    rw [decF] at h
    split at h
    · rename_i he
      match r, he with
      | a :: b :: r2, he =>
        have he2 : (c == 37 && isHex a && isHex b) = true := he
        have e1 := Bool.and_eq_true_iff.1 he2
        have e2 := Bool.and_eq_true_iff.1 e1.1
        have x0 : c = 37 := by simpa using e2.1
        have x1 := isHex_not37 e2.2
        have x2 := isHex_not37 e1.2
        cases hd : decF k ((c :: a :: b :: r2).drop 3) (i + 3) with
        | error e => rw [hd] at h; cases h
        | ok t' =>
          rw [hd] at h
          injection h with h
          have := count_same k r2 _ _ hd
          rw [← h, x0]
          simp [x1, x2]
          omega
    · split at h
      · cases h
      · rename_i hc
        cases hd : decF k r (i + 1) with
        | error e => rw [hd] at h; cases h
        | ok t' =>
          rw [hd] at h
          injection h with h
          have := count_same k r _ _ hd
          rw [← h]
          simp [hc]
          omega
set_option maxHeartbeats 1000000 in
theorem canonical_any (l : List UInt8) (hl : l.length < 1000000) (a b c d : BitVec 64) (w : World) :
    Calls Try.prog 13 #[.string ⟨l.toArray⟩, .agg #[.int .u64 a.toNat, .int .u64 b.toNat, .int .u64 c.toNat, .int .u64 d.toNat]] w fun e w' => e = .returned (canV ⟨a, b, c, d⟩ (decL l 0)) ∧ Below w.heap.size w w' := by
  have hB0 : Below w.heap.size w ((w.alloc (.cells #[.int .u64 a.toNat, .int .u64 b.toNat, .int .u64 c.toNat, .int .u64 d.toNat] 24)).alloc (.cells #[.int .i64 0, .int .i64 0] 28)) := by go_grown
  have s0 := (Blk.new w ⟨a, b, c, d⟩).alloc (.cells #[.int .i64 0, .int .i64 0] 28)
  have r0 := FBlk.new0 (w.alloc (.cells #[.int .u64 a.toNat, .int .u64 b.toNat, .int .u64 c.toNat, .int .u64 d.toNat] 24))
  rw [World.size_alloc] at r0
  cases hd : decL l 0 with
  | error i =>
    have HD := Lib.hid hd
    go_enter Try.func13, Try.ntmps13
    go_upto_region 1 with fail
    obtain ⟨W, hW⟩ : ∃ W, (w.alloc (.cells #[.int .u64 a.toNat, .int .u64 b.toNat, .int .u64 c.toNat, .int .u64 d.toNat] 24)).alloc (.cells #[.int .i64 0, .int .i64 0] 28) = W := ⟨_, rfl⟩
    rw [hW] at hB0 s0 r0 ⊢
    clear hW hd
    go_wp2_with fail
    refine (decode_any l hl _).mono ?_
    rintro y w1 ⟨rfl, hb⟩
    rw [HD.out]
    simp only [decV]
    have r1 : FBlk w1 (w.heap.size + 1) 0 0 := (hb.block _ r0.lt).trans r0
    have hB1 := hB0.trans (hb.mono hB0.size)
    have l1 := r1.lt
    obtain ⟨c0, c1, f0, f1⟩ := r1.cells
    clear hb hB0 s0 r0
    go_wp2_with fail
    go_region
    all_goals
      go_wp2_with fail
      exact bodyPost_ret ((((r1.store 3 i).alloc (.cells #[.int .i64 3, .int .i64 (i : Int)] 28)).drew).results rfl _ _ rfl rfl) rfl ⟨rfl, ((FBlk.belowStore (B := w.heap.size + 1) hB1 (by omega) _ _).alloc (by simp; omega) _).drew⟩
  | ok t =>
    have hlt : t.length < 1000000 := Nat.lt_of_le_of_lt (decL_length hd) hl
    have HD := Lib.hid hd
    go_enter Try.func13, Try.ntmps13
    go_upto_region 1 with fail
    obtain ⟨W, hW⟩ : ∃ W, (w.alloc (.cells #[.int .u64 a.toNat, .int .u64 b.toNat, .int .u64 c.toNat, .int .u64 d.toNat] 24)).alloc (.cells #[.int .i64 0, .int .i64 0] 28) = W := ⟨_, rfl⟩
    rw [hW] at hB0 s0 r0 ⊢
    clear hW hd
    go_wp2_with fail
    refine (decode_any l hl _).mono ?_
    rintro y w1 ⟨rfl, hb⟩
    rw [HD.out]
    simp only [decV]
    have r1 : FBlk w1 (w.heap.size + 1) 0 0 := (hb.block _ r0.lt).trans r0
    have s1 := s0.below hb s0.lt
    have hB1 := hB0.trans (hb.mono hB0.size)
    have l1 := r1.lt
    obtain ⟨c0, c1, f0, f1⟩ := r1.cells
    obtain ⟨b0, b1, b2, b3⟩ := s1.cells
    have ls := s1.lt
    clear hb hB0 s0 r0
    go_wp2_with fail
    refine (encode_any t hlt a b c d _).mono ?_
    rintro y w2 ⟨rfl, hb⟩
    have r2 : FBlk w2 (w.heap.size + 1) 0 0 := (hb.block _ (by simp; omega)).trans (r1.alloc _)
    have hB2 := (hB1.alloc hB1.size (.cells #[.int .i64 0, .int .i64 0] 28)).trans (hb.mono (by have := hB1.size; simp; omega))
    clear hb c0 c1 f0 f1 b0 b1 b2 b3
    obtain ⟨c0, c1, f0, f1⟩ := r2.cells
    go_wp2_with fail
    exact bodyPost_ret ((r2.store 0 0).results rfl _ _ rfl rfl) rfl ⟨rfl, FBlk.belowStore hB2 (by omega) _ _⟩
set_option maxHeartbeats 1000000 in
theorem is_any (l : List UInt8) (hl : l.length < 1000000) (a b c d : BitVec 64) (w : World) :
    Calls Try.prog 21 #[.string ⟨l.toArray⟩, .agg #[.int .u64 a.toNat, .int .u64 b.toNat, .int .u64 c.toNat, .int .u64 d.toNat]] w fun e w' => e = .returned (.bool (isB ⟨a, b, c, d⟩ l)) ∧ Below w.heap.size w w' := by
  have hB0 : Below w.heap.size w (w.alloc (.cells #[.int .u64 a.toNat, .int .u64 b.toNat, .int .u64 c.toNat, .int .u64 d.toNat] 24)) := by go_grown
  cases hd : decL l 0 with
  | error i =>
    have HD := Lib.hid hd
    have HR : Hid (isB ⟨a, b, c, d⟩ l = false) := Lib.hid (by unfold isB; rw [hd])
    clear hd
    go_enter Try.func21, Try.ntmps21
    go_wp2_with fail
    refine (canonical_any l hl a b c d _).mono ?_
    rintro y w1 ⟨rfl, hb⟩
    rw [HD.out]
    simp only [canV]
    go_wp2_with fail
    go_ret
    exact ⟨by rw [HR.out]; rfl, (hB0.trans (hb.mono hB0.size)).alloc (by have := hB0.size; have := hb.size; omega) _⟩
  | ok t =>
    have HD := Lib.hid hd
    have HR : Hid (isB ⟨a, b, c, d⟩ l = (encL ⟨a, b, c, d⟩ t == l)) := Lib.hid (by unfold isB; rw [hd])
    obtain ⟨T, hT⟩ : ∃ T, Hid (encL ⟨a, b, c, d⟩ t = T) := ⟨_, Lib.hid rfl⟩
    rw [hT.out] at HR
    clear hd
    go_enter Try.func21, Try.ntmps21
    go_wp2_with fail
    refine (canonical_any l hl a b c d _).mono ?_
    rintro y w1 ⟨rfl, hb⟩
    rw [HD.out]
    simp only [canV]
    rw [hT.out]
    go_wp2_with fail
    go_ret
    exact ⟨by rw [HR.out]; rfl, (hB0.trans (hb.mono hB0.size)).alloc (by have := hB0.size; have := hb.size; omega) _⟩
set_option maxHeartbeats 1000000 in
theorem escapes_any (l : List UInt8) (hl : l.length < 1000000) (w : World) :
    Calls Try.prog 15 #[.string ⟨l.toArray⟩] w fun e w' => e = .returned (escsV l (decL l 0)) ∧ Below w.heap.size w w' := by
  have hB0 : Below w.heap.size w (w.alloc (.cells #[.int .i64 0, .int .i64 0] 28)) := by go_grown
  have r0 := FBlk.new0 w
  cases hd : decL l 0 with
  | error i =>
    have HD := Lib.hid hd
    go_enter Try.func15, Try.ntmps15
    clear hd
    go_wp2_with fail
    refine (decode_any l hl _).mono ?_
    rintro y w1 ⟨rfl, hb⟩
    rw [HD.out]
    simp only [decV]
    have r1 : FBlk w1 w.heap.size 0 0 := (hb.block _ r0.lt).trans r0
    have hB1 := hB0.trans (hb.mono hB0.size)
    have l1 := r1.lt
    obtain ⟨c0, c1, f0, f1⟩ := r1.cells
    clear hb hB0 r0
    go_wp2_with fail
    go_region
    all_goals
      go_wp2_with fail
      exact bodyPost_ret ((((r1.store 3 i).alloc (.cells #[.int .i64 3, .int .i64 (i : Int)] 28)).drew).results rfl _ _ rfl rfl) rfl ⟨rfl, ((FBlk.belowStore (B := w.heap.size) hB1 (by omega) _ _).alloc (by simp; omega) _).drew⟩
  | ok t =>
    have hcnt := count_same _ _ _ _ hd
    have HD := Lib.hid hd
    obtain ⟨u, hu⟩ : ∃ u, Hid (Lib.countByte l 37 = u) := ⟨_, Lib.hid rfl⟩
    have hq : (l.length - t.length) / 2 = u := by rw [← hu.out]; unfold Lib.countByte; omega
    have HQ := Lib.hid hq
    clear hcnt hq
    go_enter Try.func15, Try.ntmps15
    clear hd
    go_wp2_with fail
    refine (decode_any l hl _).mono ?_
    rintro y w1 ⟨rfl, hb⟩
    rw [HD.out]
    simp only [decV]
    have r1 : FBlk w1 w.heap.size 0 0 := (hb.block _ r0.lt).trans r0
    have hB1 := hB0.trans (hb.mono hB0.size)
    have l1 := r1.lt
    obtain ⟨c0, c1, f0, f1⟩ := r1.cells
    clear hb hB0 r0
    go_wp2_with fail
    refine (countByte_any _ _ _).mono ?_
    rintro y w2 ⟨rfl, rfl⟩
    rw [show (ByteArray.mk l.toArray).data.toList = l from rfl, hu.out]
    go_wp2_with fail
    refine bodyPost_ret (((r1.store 0 0).alloc (.cells #[.int .i64 0, .int .i64 0] 28)).results rfl _ _ rfl rfl) rfl ⟨?_, (FBlk.belowStore (B := w.heap.size) hB1 (by omega) _ _).alloc (by simp; omega) _⟩
    show Ending.returned (.tuple #[.int .i64 (u : Int), _]) = Ending.returned (.tuple #[.int .i64 (((l.length - t.length) / 2 : Nat) : Int), _])
    rw [HQ.out]
theorem cutV_eq {l t : List UInt8} {n : Int} (hn : ¬ n < 0) (hd : decL l 0 = .ok t) : cutV l n = .tuple #[.string ⟨(l.take (cutF l n l.length 0)).toArray⟩, .int .i64 0] := by
  have ha : askedN l n = 0 := by unfold askedN; rw [if_neg hn, hd]
  unfold cutV
  rw [if_pos ha]
set_option maxHeartbeats 2000000 in
theorem cut_any (l : List UInt8) (hl : l.length < 1000000) (n : Int) (w : World) :
    Calls Try.prog 23 #[.string ⟨l.toArray⟩, .int .i64 n] w fun e w' => e = .returned (cutV l n) ∧ Below w.heap.size w w' := by
  by_cases hn : n < 0
  · have HR : Hid (cutV l n = .tuple #[.string ⟨#[]⟩, .int .i64 2]) := Lib.hid (by unfold cutV askedN; rw [if_pos hn]; rfl)
    go_enter Try.func23, Try.ntmps23
    go_wp2_with fail
    go_ret2
    exact ⟨by rw [HR.out]; rfl, Below.refl _ _⟩
  · cases hd : decL l 0 with
    | error i =>
      have HD := Lib.hid hd
      have HR : Hid (cutV l n = .tuple #[.string ⟨#[]⟩, .int .i64 3]) := Lib.hid (by unfold cutV askedN; rw [if_neg hn, hd]; rfl)
      clear hd
      go_enter Try.func23, Try.ntmps23
      go_wp2_with fail
      refine (decode_any l hl _).mono ?_
      rintro y w1 ⟨rfl, hb⟩
      rw [HD.out]
      simp only [decV]
      go_wp2_with fail
      go_region
      all_goals
        go_wp2_with fail
        go_ret2
        exact ⟨by rw [HR.out]; rfl, (hb.alloc hb.size _).drew⟩
    | ok t =>
      have HD := Lib.hid hd
      have HR := Lib.hid (cutV_eq hn hd)
      have HC := Lib.hid (cut_same (n := n) (by omega) hd)
      have he := endOf_le l n
      have hm : Hid (min n (l.length : Int) = (endOf l n : Int)) := Lib.hid (by unfold endOf; omega)
      have HL : Hid (Lib.lastIndexByte ⟨(l.take (endOf l n)).toArray⟩ 37 = lastOf l n) := Lib.hid rfl
      have hlb : -1 ≤ lastOf l n ∧ lastOf l n < endOf l n := by
        rcases last_cases l (endOf l n) he with ⟨h1, -⟩ | ⟨q, hq, h1, -, -⟩
        · unfold lastOf; rw [h1]; omega
        · unfold lastOf; rw [h1]; omega
      generalize lastOf l n = s at *
      generalize endOf l n = e at *
      generalize cutF l n l.length 0 = c at *
      have he2 : (e : Int) ≤ (l.length : Int) := by omega
      clear hd
      go_enter Try.func23, Try.ntmps23
      go_wp2_with fail
      refine (decode_any l hl _).mono ?_
      rintro y w1 ⟨rfl, hb⟩
      rw [HD.out]
      simp only [decV]
      go_upto_region 7 with fail
      rw [hm.out]
      go_wp2_with fail
      refine (lastByte_any _ _ (by show (l.take e).toArray.size < _; simp; omega) _).mono ?_
      rintro y w2 ⟨rfl, rfl⟩
      rw [HL.out]
      have hB := hb.alloc hb.size (.cells #[.int .i64 0, .int .i64 0] 28)
      by_cases hs0 : 0 ≤ s
      · obtain ⟨q, rfl⟩ := Int.eq_ofNat_of_zero_le hs0
        by_cases hs3 : (e : Int) - (q : Int) < 3
        · have d1 : decide ((0 : Int) ≤ (q : Int)) = true := decide_eq_true (by omega)
          have d2 : decide ((e : Int) - (q : Int) < 3) = true := decide_eq_true hs3
          have hqc : Hid (c = q) := Lib.hid (by have := HC.out; rw [if_pos ⟨hs0, hs3⟩] at this; omega)
          have hq2 : (q : Int) ≤ (l.length : Int) := by omega
          clear HC hs0
          go_wp2_with fail
          refine (clone_any _ _ (by show (l.take q).toArray.size ≤ _; simp; omega)).mono ?_
          rintro y w2 ⟨rfl, hb2⟩
          go_wp2_with fail
          go_ret2
          exact ⟨by rw [HR.out, hqc.out]; rfl, hB.trans (hb2.mono hB.size)⟩
        · have d1 : decide ((0 : Int) ≤ (q : Int)) = true := decide_eq_true (by omega)
          have d2 : decide ((e : Int) - (q : Int) < 3) = false := decide_eq_false hs3
          have hqc : Hid (c = e) := Lib.hid (by have := HC.out; rw [if_neg (fun h => hs3 h.2)] at this; omega)
          clear HC hs0
          go_wp2_with fail
          refine (clone_any _ _ (by show (l.take e).toArray.size ≤ _; simp; omega)).mono ?_
          rintro y w2 ⟨rfl, hb2⟩
          go_wp2_with fail
          go_ret2
          exact ⟨by rw [HR.out, hqc.out]; rfl, hB.trans (hb2.mono hB.size)⟩
      · have d1 : decide ((0 : Int) ≤ s) = false := decide_eq_false hs0
        have hqc : Hid (c = e) := Lib.hid (by have := HC.out; rw [if_neg (fun h => hs0 h.1)] at this; omega)
        clear HC
        go_wp2_with fail
        refine (clone_any _ _ (by show (l.take e).toArray.size ≤ _; simp; omega)).mono ?_
        rintro y w2 ⟨rfl, hb2⟩
        go_wp2_with fail
        go_ret2
        exact ⟨by rw [HR.out, hqc.out]; rfl, hB.trans (hb2.mono hB.size)⟩
theorem offF_bd {l t : List UInt8} (h : decL l 0 = .ok t) : ∀ k, k < t.length → (stepB (l.drop (offF l k)) = 3 ↔ l[offF l k]? = some 37) ∧ (stepB (l.drop (offF l k)) = 1 ∨ stepB (l.drop (offF l k)) = 3) := by
  have hb : ∀ k, k ≤ t.length → Bd l (offF l k) := by
    intro k
    induction k with
    | zero => intro _ p hp; exact absurd hp (Nat.not_lt_zero _)
    | succ k ih =>
      intro hk
      exact ((ih (by omega)).next (offF_lt h k (by omega)) (offF_at h k (by omega)).2).1
  intro k hk
  have := (hb k (by omega)).next (offF_lt h k hk) (offF_at h k (by omega)).2
  exact this.2
set_option maxHeartbeats 2000000 in
theorem offset_any (l : List UInt8) (hl : l.length < 1000000) (n : Int) (w : World) :
    Calls Try.prog 25 #[.string ⟨l.toArray⟩, .int .i64 n] w fun e w' => e = .returned (offV l n) ∧ Below w.heap.size w w' := by
  by_cases hn : n < 0
  · have HR : Hid (offV l n = .tuple #[.int .i64 0, .int .i64 2]) := Lib.hid (by unfold offV askedN; rw [if_pos hn]; rfl)
    go_enter Try.func25, Try.ntmps25
    go_wp2_with fail
    go_ret2
    exact ⟨by rw [HR.out]; rfl, Below.refl _ _⟩
  · cases hd : decL l 0 with
    | error i =>
      have HD := Lib.hid hd
      have HR : Hid (offV l n = .tuple #[.int .i64 0, .int .i64 3]) := Lib.hid (by unfold offV askedN; rw [if_neg hn, hd]; rfl)
      clear hd
      go_enter Try.func25, Try.ntmps25
      go_wp2_with fail
      refine (decode_any l hl _).mono ?_
      rintro y w1 ⟨rfl, hb⟩
      rw [HD.out]
      simp only [decV]
      go_wp2_with fail
      go_region
      all_goals
        go_wp2_with fail
        go_ret2
        exact ⟨by rw [HR.out]; rfl, (hb.alloc hb.size _).drew⟩
    | ok t =>
      have htl := decL_length hd
      have HD := Lib.hid hd
      have h0 : askedN l n = 0 := by unfold askedN; rw [if_neg hn, hd]
      obtain ⟨m, rfl⟩ := Int.eq_ofNat_of_zero_le (Int.not_lt.1 hn)
      by_cases hm : t.length < m
      · have HR : Hid (offV l (m : Int) = .tuple #[.int .i64 0, .int .i64 2]) := Lib.hid (by unfold offV; rw [if_pos h0, hd]; exact if_pos (by omega))
        have h2 : decide ((t.length : Int) < (m : Int)) = true := decide_eq_true (by omega)
        clear h0 hd hn
        go_enter Try.func25, Try.ntmps25
        go_wp2_with fail
        refine (decode_any l hl _).mono ?_
        rintro y w1 ⟨rfl, hb⟩
        rw [HD.out]
        simp only [decV]
        go_wp2_with fail
        go_ret2
        exact ⟨by rw [HR.out]; rfl, hb.alloc hb.size _⟩
      · have HR : Hid (offV l (m : Int) = .tuple #[.int .i64 (offF l m : Nat), .int .i64 0]) := Lib.hid (by unfold offV; rw [if_pos h0, hd]; exact if_neg (by omega))
        have h2 : decide ((t.length : Int) < (m : Int)) = false := decide_eq_false (by omega)
        have HL := Lib.hid (fun k hk => offF_lt hd k hk)
        have HT := Lib.hid (offF_bd hd)
        clear h0 hd hn
        go_enter Try.func25, Try.ntmps25
        go_wp2_with fail
        refine (decode_any l hl _).mono ?_
        rintro y w1 ⟨rfl, hb⟩
        rw [HD.out]
        simp only [decV]
        have hB := hb.alloc hb.size (.cells #[.int .i64 0, .int .i64 0] 28)
        go_wp2_with fail
        go_loopw [8, 26] (fun i k wr => ∃ (j q : Nat), i = .int .i64 j ∧ k = .int .i64 q ∧ q ≤ m ∧ Hid (offF l q = j) ∧ Below w.heap.size w wr)
          (fun _ k _ => m - (intOf k).toNat)
        case atStart => exact ⟨0, 0, rfl, rfl, Nat.zero_le _, Lib.hid rfl, hB⟩
        case round =>
          obtain ⟨j, q, rfl, rfl, hq, hj, hB⟩ := hrel
          by_cases hlt : q < m
          · have h1 : decide ((q : Int) < (m : Int)) = true := decide_eq_true (by omega)
            have hjl : j < l.length := by rw [← hj.out]; exact HL.out q (by omega)
            have hjl2 : (j : Int) < (l.length : Int) := by omega
            have ht := HT.out q (by omega)
            rw [hj.out] at ht
            obtain ⟨p1, p2, p3⟩ := stepB_le hjl
            have hnext : Hid (offF l (q + 1) = j + stepB (l.drop j)) := Lib.hid (by rw [← hj.out]; rfl)
            rw [List.getElem?_eq_getElem hjl] at ht
            obtain ⟨z, hz⟩ : ∃ z, l[j] = z := ⟨_, rfl⟩
            rw [hz] at ht
            obtain ⟨y, hy⟩ : ∃ y, z.toNat = y := ⟨_, rfl⟩
            by_cases h37 : y = 37
            · have hz37 : z = 37 := UInt8.toNat_inj.1 (by rw [hy, h37]; rfl)
              subst h37
              have hs : Hid (offF l (q + 1) = j + 3) := Lib.hid (by rw [hnext.out, ht.1.2 (by rw [hz37])])
              rw [ht.1.2 (by rw [hz37])] at p3
              clear hz37 ht hnext p1 p2
              go_wp2_with fail
              go_roundw
              case rel => exact ⟨j + 3, q + 1, by go_num, by go_num, by omega, hs, hB⟩
              case measure => simp [intOf]; omega
            · have hz37 : z ≠ 37 := fun e => h37 (by rw [← hy, e]; rfl)
              have hst : stepB (l.drop j) = 1 := ht.2.resolve_right (fun e => hz37 (by have := ht.1.1 e; injection this))
              have hs : Hid (offF l (q + 1) = j + 1) := Lib.hid (by rw [hnext.out, hst])
              have hy39 : ((y : Int) == 37) = false := by rw [beq_eq_false_iff_ne]; omega
              have hy40 : (y == 37) = false := by rw [beq_eq_false_iff_ne]; omega
              clear hz37 ht hnext p1 p2 p3 hst
              go_wp2_with fail
              go_roundw
              case rel => exact ⟨j + 1, q + 1, by go_num, by go_num, by omega, hs, hB⟩
              case measure => simp [intOf]; omega
          · have h1 : decide ((q : Int) < (m : Int)) = false := decide_eq_false (by omega)
            obtain rfl : q = m := by omega
            go_wp2_with fail
            go_ret2
            exact ⟨by rw [HR.out, hj.out]; rfl, hB⟩
end Go.Proofs.Ytheajdgdllobbaa
