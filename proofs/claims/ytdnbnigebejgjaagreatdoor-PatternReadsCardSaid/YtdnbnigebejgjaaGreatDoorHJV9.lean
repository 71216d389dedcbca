/-
  The reference's reader of patterns: a class.
-/
import Derived.Test.YtdnbnigebejgjaaGreatDoorHJV8
namespace Go.Proofs.YtdnbnigebejgjaaGreatDoor
open Go.RowKit
attribute [local go_sem] w_0 w_1 w_2 w_3 eq_none eq_noneA
theorem take_k {t : List UInt8} {s : RS} {x : List UInt8} (h : s.k ≤ t.length) : (takeR t s x).k ≤ t.length := by
  unfold takeR
  split
  · rename_i h1; exact takeB_le h1 h
  · exact h
theorem fail_k (s : RS) (e a : Nat) : (failR s e a).k = s.k := by unfold failR; split <;> rfl
theorem one_k {t : List UInt8} {s : RS} {o : List UInt8} (h : s.k ≤ t.length) : (oneR t s o).k ≤ t.length := by
  unfold oneR
  split
  · rename_i h1; exact sees_lt h1
  · rw [fail_k]; exact h
theorem cb_k {t : List UInt8} {s : RS} (h : s.k ≤ t.length) : (cbR t s).k ≤ t.length := by
  unfold cbR
  split
  · exact one_k (take_k h)
  · exact one_k h
theorem el_k {t : List UInt8} {s : RS} (h : s.k ≤ t.length) : (elR t s).k ≤ t.length := by
  unfold elR
  split
  · unfold namedR
    split <;> exact take_k h
  · split
    · split
      · exact cb_k (take_k (cb_k h))
      · rw [fail_k]; exact cb_k (take_k (cb_k h))
    · exact cb_k h
theorem el_end {t : List UInt8} {s : RS} (h0 : s.e = 0) (h : restR t s = []) : (elR t s).e = 3 ∧ (elR t s).a = s.k := by
  have hc : cbR t s = failR s 3 s.k := by
    unfold cbR
    rw [if_neg (by rw [take_nil h]; simp)]
    unfold oneR seesB
    rw [h, if_neg (by simp [seesL])]
  have hb : (failR s 3 s.k).e = 3 ∧ (failR s 3 s.k).a = s.k := by unfold failR; rw [if_pos h0]; exact ⟨rfl, rfl⟩
  have hn : (namedV t s).2 = false := by
    unfold namedV
    rw [if_neg (by rw [take_nil h]; simp), if_neg (by rw [take_nil h]; simp)]
  rw [(el_no hn (by rw [hc]; exact take_bad (by rw [hb.1]; simp) _ _)).2, hc]
  exact hb
theorem el_less {t : List UInt8} {s : RS} (h0 : s.e = 0) (hk : s.k ≤ t.length) : (if (elR t s).e = 0 then t.length + 1 - (elR t s).k else 0) < (if s.e = 0 then t.length + 1 - s.k else 0) := by
  rw [if_pos h0]
  split
  · rename_i h1
    by_cases hr : restR t s = []
    · rw [(el_end h0 hr).1] at h1; cases h1
    · have hp : 0 < vl t s := List.length_pos_iff.2 hr
      have h2 := vl_el hp
      rw [vl_at h0, vl_at h1] at h2
      omega
  · omega
theorem clsL_bad {t : List UInt8} (m : Nat) {s : RS} (w : WSet) (h : s.e ≠ 0) : clsL t m s w = (w, s) := by
  cases m with
  | zero => rfl
  | succ m =>
    unfold clsL
    have : seesB t s [93] = false := by unfold seesB restR; rw [if_neg h]; rfl
    rw [if_neg (by rw [this]; simp)]
theorem sees93 {t : List UInt8} {s : RS} (h : s.e = 0) (hr : restR t s ≠ []) : seesB t s [93] = !(isB t s.k 93) := by
  have hd : restR t s = t.drop s.k := if_pos h
  unfold seesB isB
  rw [← hd]
  cases hc : restR t s with
  | nil => exact absurd hc hr
  | cons c z =>
    show (!([93].contains c)) = !(c == 93)
    rw [List.contains_cons, List.contains_nil, Bool.or_false]
/-- The state of the reference in a class: R is what the parser comes to. -/
def ClI (t : List UInt8) (R : WSet × RS) (s1 : RS) (first : Bool) (acc : WSet) (s : RS) : Prop :=
  (first = true ∧ s.e = 0 ∧ s = s1 ∧ acc = .empty ∧ R = clsL t t.length (elR t s1) (elV t s1)) ∨
  (first = false ∧ ∃ m, clsL t m s acc = R ∧ vl t s ≤ m) ∨
  (first = false ∧ s.e = 3 ∧ R.2.e = 0 ∧ restR t R.2 = [] ∧ s.a = R.2.k)
theorem or_none (v : WSet) : WSet.empty.or v = v := by
  obtain ⟨a, b, c, d⟩ := v
  simp [WSet.or, WSet.empty]
theorem ClI.body {t : List UInt8} {R : WSet × RS} {s1 : RS} {first : Bool} {acc : WSet} {s : RS} (h : ClI t R s1 first acc s) (h0 : s.e = 0) (hf : first = false → isB t s.k 93 = false) : ClI t R s1 false (acc.or (elV t s)) (elR t s) := by
  rcases h with ⟨rfl, _, rfl, rfl, hR⟩ | ⟨rfl, m, hR, hm⟩ | ⟨_, h3, _⟩
  · exact .inr (.inl ⟨rfl, t.length, by rw [or_none]; exact hR.symm, Nat.le_trans (restR_len t _) (by omega)⟩)
  · by_cases hr : restR t s = []
    · refine .inr (.inr ⟨rfl, (el_end h0 hr).1, ?_⟩)
      have e : R = (acc, s) := by
        rw [← hR]
        cases m with
        | zero => rfl
        | succ m =>
          unfold clsL
          rw [if_neg (by unfold seesB; rw [hr]; simp [seesL])]
      rw [e]
      exact ⟨h0, hr, (el_end h0 hr).2⟩
    · have hs := sees93 h0 hr
      rw [hf rfl] at hs
      have hs : seesB t s [93] = true := hs
      have hp := vl_sees hs
      have hl := vl_el hp
      obtain ⟨m', rfl⟩ : ∃ m', m = m' + 1 := ⟨m - 1, by omega⟩
      refine .inr (.inl ⟨rfl, m', ?_, by omega⟩)
      unfold clsL at hR
      rw [if_pos hs] at hR
      exact hR
  · rw [h0] at h3; cases h3
/-- The loop is left with a fault. -/
theorem ClI.bad {t : List UInt8} {s s1 : RS} {first : Bool} {acc : WSet} {s' : RS} (h : ClI t (clsIn t s) s1 first acc s') (he : s'.e ≠ 0) : (clsR t s).e = s'.e ∧ (clsR t s).a = s'.a := by
  unfold clsR clsEnd
  rcases h with ⟨_, h0, _⟩ | ⟨_, m, hR, _⟩ | ⟨_, h3, hr0, hr, ha⟩
  · exact absurd h0 he
  · rw [clsL_bad m acc he] at hR
    rw [← hR]
    dsimp only
    have e : (if clsV t s = .empty then failR s' 3 s'.k else s') = s' := by
      split
      · exact fail_bad he _ _
      · rfl
    rw [e, need_bad he]
    exact ⟨rfl, rfl⟩
  · rw [h3, ha]
    split
    · have e : failR (clsIn t s).2 3 (clsIn t s).2.k = ⟨(clsIn t s).2.k, 3, (clsIn t s).2.k⟩ := by unfold failR; rw [if_pos hr0]
      rw [e, need_bad (by simp)]
      exact ⟨rfl, rfl⟩
    · unfold needR
      rw [if_neg (by rw [take_nil hr]; simp)]
      unfold failR
      rw [if_pos hr0]
      exact ⟨rfl, rfl⟩
/-- The loop is left before a bracket. -/
theorem ClI.good {t : List UInt8} {s s1 : RS} {acc : WSet} {s' : RS} (h : ClI t (clsIn t s) s1 false acc s') (he : s'.e = 0) (h93 : isB t s'.k 93 = true) : clsV t s = clsW (takeB t s [94]) acc ∧ (clsV t s = .empty → (clsR t s).e = 3 ∧ (clsR t s).a = s'.k) ∧ (clsV t s ≠ .empty → clsR t s = ⟨s'.k + 1, s'.e, s'.a⟩) := by
  rcases h with ⟨h, _⟩ | ⟨_, m, hR, _⟩ | ⟨_, h3, _⟩
  · cases h
  · have hsb : seesB t s' [93] = false := by
      by_cases hr : restR t s' = []
      · unfold seesB; rw [hr]; rfl
      · rw [sees93 he hr, h93]; rfl
    have e : clsIn t s = (acc, s') := by
      rw [← hR]
      cases m with
      | zero => rfl
      | succ m =>
        unfold clsL
        rw [if_neg (by rw [hsb]; simp)]
    refine ⟨by unfold clsV; rw [e], fun hz => ?_, fun hz => ?_⟩
    · unfold clsR clsEnd
      rw [if_pos hz, e]
      dsimp only
      have e2 : failR s' 3 s'.k = ⟨s'.k, 3, s'.k⟩ := by unfold failR; rw [if_pos he]
      rw [e2, need_bad (by simp)]
      exact ⟨rfl, rfl⟩
    · unfold clsR clsEnd
      rw [if_neg hz, e]
      dsimp only
      have ht : takeB t s' [93] = true := by rw [← isB_take he]; exact h93
      unfold needR
      rw [if_pos ht]
      unfold takeR
      rw [if_pos ht]
      rfl
  · rw [he] at h3; cases h3
/-- How much the reference's reader can still do. -/
def visR (t : List UInt8) (w : World) (B : Nat) : Nat := if (intOf ((w.cell? ⟨B, 6, none⟩).getD undef)).toNat = 0 then t.length + 1 - (intOf ((w.cell? ⟨B, 1, none⟩).getD undef)).toNat else 0
theorem visR_of {t : List UInt8} {s : RS} {x2 x3 x4 x5 : Value} {w : World} {B : Nat} (h : RF w B t s x2 x3 x4 x5) : visR t w B = if s.e = 0 then t.length + 1 - s.k else 0 := by
  obtain ⟨c0, c1, c6, c7⟩ := h.cells
  unfold visR
  rw [c1, c6]
  simp only [Option.getD_some, intOf, Int.toNat_natCast]
  rfl
/-- What the reference's reader comes to where the parser comes to the set v and the state q. -/
def RelC (w : WSet) (s : RS) (v : WSet) (q : RS) : Prop := (q.e = 0 → w = v ∧ s = q) ∧ (q.e ≠ 0 → s.e = q.e ∧ s.a = q.a)
set_option maxHeartbeats 16000000 in
set_option maxRecDepth 100000 in
theorem rClass_any (t : List UInt8) (s : RS) (x2 x3 x4 x5 : Value) (W : World) (B : Nat) (h : RF W B t s x2 x3 x4 x5) (h0 : s.e = 0) (hle : s.k ≤ t.length) :
    Calls Tryz.prog 109 #[.pointer (some ⟨B, 0, none⟩)] W fun e w' => ∃ (v : WSet) (s' : RS), e = .returned v.v ∧ RelC v s' (clsV t s) (clsR t s) ∧ RF w' B t s' x2 x3 x4 x5 ∧ W.grownBy w' (some B) := by
  have hlen := h.len
  have hBW := h.lt
  obtain ⟨X, hX⟩ : ∃ X, W.alloc (.cells #[.int .u64 0, .int .u64 0, .int .u64 0, .int .u64 0] 41) = X := ⟨_, rfl⟩
  have r1 : Blk X W.heap.size .empty := by rw [← hX]; exact Blk.new0 W
  have h1 : RF X B t s x2 x3 x4 x5 := by rw [← hX]; exact h.alloc _
  have g1 : W.grownBy X (some B) := by rw [← hX]; exact jgal (jgrefl W _) _
  have HX := Lib.hid hX
  have hi94 := isB_take (t := t) h0 94
  obtain ⟨q, hq⟩ : ∃ q, takeB t s [94] = q := ⟨_, rfl⟩
  rw [hq] at hi94
  obtain ⟨k, e0, a0⟩ := s
  dsimp only at h0 hle hi94
  subst h0
  have H94 := Lib.hid fun W h => rIs_at t k 94 94 rfl q hi94 W B 0 a0 x2 x3 x4 x5 h
  obtain ⟨s1, hs1⟩ : ∃ s1, takeR t ⟨k, 0, a0⟩ [94] = s1 := ⟨_, rfl⟩
  have hs1k : s1.k ≤ t.length := by rw [← hs1]; exact take_k hle
  have hs1e : s1.e = 0 := by rw [← hs1]; unfold takeR; split <;> rfl
  have HI : Hid (clsIn t ⟨k, 0, a0⟩ = clsL t t.length (elR t s1) (elV t s1)) := Lib.hid (by unfold clsIn; rw [hs1])
  have HBAD := Lib.hid fun first acc s' => ClI.bad (t := t) (s := ⟨k, 0, a0⟩) (s1 := s1) (first := first) (acc := acc) (s' := s')
  have HGOOD := Lib.hid fun acc s' => ClI.good (t := t) (s := ⟨k, 0, a0⟩) (s1 := s1) (acc := acc) (s' := s')
  rw [hq] at HGOOD
  obtain ⟨R, hR⟩ : ∃ R, clsIn t ⟨k, 0, a0⟩ = R := ⟨_, rfl⟩
  rw [hR] at HI HBAD HGOOD
  have hk1 : q = true → k < t.length ∧ s1 = ⟨k + 1, 0, a0⟩ := fun e => by
    have := takeB_le (by rw [hq]; exact e) hle
    simp only [List.length_singleton] at this
    refine ⟨by omega, ?_⟩
    rw [← hs1]
    unfold takeR
    rw [if_pos (by rw [hq]; exact e)]
    rfl
  have hk0 : q = false → s1 = ⟨k, 0, a0⟩ := fun e => by rw [← hs1]; unfold takeR; rw [if_neg (by rw [hq, e]; simp)]
  have HK1 := Lib.hid hk1
  have HK0 := Lib.hid hk0
  clear hk1 hk0 hq hi94 hR hs1 h hX
  go_enter Tryz.func109, Tryz.ntmps109
  go_wp2_with fail
  rw [HX.out]
  refine (H94.out _ h1).mono ?_
  rintro e w1 ⟨rfl, m1, hw1⟩
  have h2 : RF w1 B t ⟨k, 0, a0⟩ x2 x3 x4 x5 := by rw [hw1]; exact h1.drewN m1
  have r2 : Blk w1 W.heap.size .empty := by rw [hw1]; exact r1
  have g2 : W.grownBy w1 (some B) := by rw [hw1]; exact jgdrewN g1 m1
  clear hw1 h1 r1 g1 HX H94
  go_upto_if 8 with (fail)
  go_cut [3] (fun v wx => v = .bool q ∧ RF wx B t s1 x2 x3 x4 x5 ∧ Blk wx W.heap.size .empty ∧ W.grownBy wx (some B))
  case first =>
    cases q with
    | true =>
      obtain ⟨hlt, rfl⟩ := HK1.out rfl
      obtain ⟨c0, c1, c6, c7⟩ := h2.cells
      have f1 := h2.free 1
      dsimp only at c1
      have ww1 : IntKind.i64.wrap ((k : Int) + 1) = (k : Int) + 1 := jwrap (by omega) (by omega)
      go_wp2_with fail
      go_meet
      exact ⟨rfl, h2.step (by dsimp only; omega), r2.other ⟨B, 1, none⟩ (by show B ≠ _; omega) _, jgtrans g2 (jgset w1 B 1 _)⟩
    | false =>
      obtain rfl := HK0.out rfl
      go_wp2_with fail
      go_meet
      exact ⟨rfl, h2, r2, g2⟩
  case rest =>
  clear h2 r2 g2
  obtain ⟨rfl, h3, r3, g3⟩ := hcut
  rename World => w3
  have hN : w3.heap.size > W.heap.size := r3.lt
  obtain ⟨N, hNN⟩ : ∃ N, w3.heap.size = N := ⟨_, rfl⟩
  rw [hNN] at hN
  go_wp2_with fail
  go_loopw [5] (fun fv wr => ∃ (first : Bool) (acc : WSet) (s' : RS), fv = .bool first ∧ Hid (ClI t R s1 first acc s') ∧ Hid (s'.k ≤ t.length) ∧ Hid (RF wr B t s' x2 x3 x4 x5) ∧ Hid (Blk wr W.heap.size .empty) ∧ Hid (Blk wr N acc) ∧ Hid (W.grownBy wr (some B))) (fun _ wr => visR t wr B)
  case atStart =>
    exact ⟨true, .empty, s1, rfl, Lib.hid (.inl ⟨rfl, hs1e, rfl, rfl, HI.out⟩), Lib.hid hs1k, Lib.hid (h3.alloc _), Lib.hid (r3.alloc _), Lib.hid (by rw [← hNN]; exact Blk.new0 w3), Lib.hid (jgal g3 _)⟩
  case round =>
    obtain ⟨first, ⟨a, b, c, d⟩, s', rfl, HCI, HKL, HRF, HR0, HAC, HGR⟩ := hrel
    rename World => wr
    clear h3 r3 g3 hNN
    have HOK := Lib.hid fun W h => rOk_any t s' x2 x3 x4 x5 W B h
    by_cases he : s'.e = 0
    · rw [decide_eq_true he] at HOK
      have HEL := Lib.hid fun W h => rElement_any t s' x2 x3 x4 x5 W B h he HKL.out
      cases first with
      | true =>
        have HCN := Lib.hid (HCI.out.body he (fun e => by cases e))
        have HLS := Lib.hid (el_less he HKL.out)
        have HVI := Lib.hid (visR_of HRF.out)
        have HKN := Lib.hid (el_k HKL.out)
        obtain ⟨⟨a', b', c', d'⟩, hw⟩ : ∃ q, elV t s' = q := ⟨_, rfl⟩
        obtain ⟨sN, hsN⟩ : ∃ q, elR t s' = q := ⟨_, rfl⟩
        rw [hw, hsN] at HCN HEL
        rw [hsN] at HLS HKN
        obtain ⟨v0, v1, v2, v3, hu⟩ : ∃ y0 y1 y2 y3, Hid ((WSet.mk a b c d).or (WSet.mk a' b' c' d') = ⟨y0, y1, y2, y3⟩) := ⟨_, _, _, _, Lib.hid rfl⟩
        have HUN := Lib.hid (refUnion2_h a b c d a' b' c' d' v0 v1 v2 v3 hu)
        rw [hu.out] at HCN
        clear hw hsN hu HBAD HGOOD HCI HI
        go_wp2_with fail

        refine (HOK.out _ HRF.out).mono ?_
        rintro e w4 ⟨rfl, hw4⟩
        rw [hw4]
        clear hw4
        go_wp2_with fail
        have h6 := HRF.out
        have r6 := HR0.out
        have c6 := HAC.out
        have g6 := HGR.out

        have hz6 := c6.lt
        obtain ⟨k0, k1, k2, k3⟩ := c6.cells4
        go_wp2_with fail
        go_region_with (first
          | (go_at_call 123; (with_reducible refine (HEL.out _ h6.drew).mono ?_); rintro e w7 ⟨rfl, h7, hg7⟩; have c7 := c6.drew.kept hg7 (jne (by omega)); have r7 := r6.drew.kept hg7 (jne hBW); have g7 := jgtrans (jgdrew g6) hg7; obtain ⟨l0, l1, l2, l3⟩ := c7.cells4; obtain ⟨m0, m1, m2, m3⟩ := c7.frees; have hz7 := c7.lt)
          | (go_at_call 44; refine (HUN.out _ _ _ (heap_alloc_new _ _)).mono ?_; rintro e w8 ⟨rfl, hb8⟩; have h8 := (h7.alloc _).below hb8 (h7.alloc _).lt; have c8 := (c7.alloc _).below hb8 (c7.alloc _).lt; have r8 := (r7.alloc _).below hb8 (r7.alloc _).lt; have g8 := jgbe (jgal g7 _) hb8; obtain ⟨p0, p1, p2, p3⟩ := c8.cells4; obtain ⟨o0, o1, o2, o3⟩ := c8.frees))
        all_goals
          go_wp2_with fail
          go_roundw
          case rel => exact ⟨false, ⟨v0, v1, v2, v3⟩, sN, rfl, HCN, HKN, Lib.hid (h8.store (by omega) _ _ _ _), Lib.hid (r8.others4 (by omega) _ _ _ _), Lib.hid (c8.store4 v0 v1 v2 v3), Lib.hid (jgstore g8 (by omega) _ _ _ _)⟩
          case measure => rw [visR_of (h8.store (by omega) _ _ _ _), HVI.out]; exact HLS.out
      | false =>
        obtain ⟨q93, hq93⟩ : ∃ q, isB t s'.k 93 = q := ⟨_, rfl⟩
        have H93 := Lib.hid fun W h => rIs_at t s'.k 93 93 rfl q93 hq93 W B s'.e s'.a x2 x3 x4 x5 h
        cases q93 with
        | false =>
          have HCN := Lib.hid (HCI.out.body he (fun _ => hq93))
          clear hq93
          have HLS := Lib.hid (el_less he HKL.out)
          have HVI := Lib.hid (visR_of HRF.out)
          have HKN := Lib.hid (el_k HKL.out)
          obtain ⟨⟨a', b', c', d'⟩, hw⟩ : ∃ q, elV t s' = q := ⟨_, rfl⟩
          obtain ⟨sN, hsN⟩ : ∃ q, elR t s' = q := ⟨_, rfl⟩
          rw [hw, hsN] at HCN HEL
          rw [hsN] at HLS HKN
          obtain ⟨v0, v1, v2, v3, hu⟩ : ∃ y0 y1 y2 y3, Hid ((WSet.mk a b c d).or (WSet.mk a' b' c' d') = ⟨y0, y1, y2, y3⟩) := ⟨_, _, _, _, Lib.hid rfl⟩
          have HUN := Lib.hid (refUnion2_h a b c d a' b' c' d' v0 v1 v2 v3 hu)
          rw [hu.out] at HCN
          clear hw hsN hu HBAD HGOOD HCI HI
          go_wp2_with fail

          refine (HOK.out _ HRF.out).mono ?_
          rintro e w4 ⟨rfl, hw4⟩
          rw [hw4]
          clear hw4
          go_wp2_with fail
          refine (H93.out _ HRF.out).mono ?_
          rintro e w5 ⟨rfl, m5, hw5⟩
          have h6 : RF w5 B t s' x2 x3 x4 x5 := by rw [hw5]; exact HRF.out.drewN m5
          have r6 : Blk w5 W.heap.size .empty := by rw [hw5]; exact HR0.out
          have c6 : Blk w5 N ⟨a, b, c, d⟩ := by rw [hw5]; exact HAC.out
          have g6 : W.grownBy w5 (some B) := by rw [hw5]; exact jgdrewN HGR.out m5
          clear hw5

          have hz6 := c6.lt
          obtain ⟨k0, k1, k2, k3⟩ := c6.cells4
          go_wp2_with fail
          go_region_with (first
            | (go_at_call 123; (with_reducible refine (HEL.out _ h6.drew).mono ?_); rintro e w7 ⟨rfl, h7, hg7⟩; have c7 := c6.drew.kept hg7 (jne (by omega)); have r7 := r6.drew.kept hg7 (jne hBW); have g7 := jgtrans (jgdrew g6) hg7; obtain ⟨l0, l1, l2, l3⟩ := c7.cells4; obtain ⟨m0, m1, m2, m3⟩ := c7.frees; have hz7 := c7.lt)
            | (go_at_call 44; refine (HUN.out _ _ _ (heap_alloc_new _ _)).mono ?_; rintro e w8 ⟨rfl, hb8⟩; have h8 := (h7.alloc _).below hb8 (h7.alloc _).lt; have c8 := (c7.alloc _).below hb8 (c7.alloc _).lt; have r8 := (r7.alloc _).below hb8 (r7.alloc _).lt; have g8 := jgbe (jgal g7 _) hb8; obtain ⟨p0, p1, p2, p3⟩ := c8.cells4; obtain ⟨o0, o1, o2, o3⟩ := c8.frees))
          all_goals
            go_wp2_with fail
            go_roundw
            case rel => exact ⟨false, ⟨v0, v1, v2, v3⟩, sN, rfl, HCN, HKN, Lib.hid (h8.store (by omega) _ _ _ _), Lib.hid (r8.others4 (by omega) _ _ _ _), Lib.hid (c8.store4 v0 v1 v2 v3), Lib.hid (jgstore g8 (by omega) _ _ _ _)⟩
            case measure => rw [visR_of (h8.store (by omega) _ _ _ _), HVI.out]; exact HLS.out
        | true =>
          obtain ⟨hV, hZ, hO⟩ := HGOOD.out _ _ HCI.out he hq93
          have HV := Lib.hid hV
          have HZ := Lib.hid hZ
          have HO := Lib.hid hO
          clear hV hZ hO hq93 HEL HGOOD HBAD HI
          go_wp2_with fail
          refine (HOK.out _ HRF.out).mono ?_
          rintro e w4 ⟨rfl, hw4⟩
          rw [hw4]
          clear hw4
          go_wp2_with fail
          refine (H93.out _ HRF.out).mono ?_
          rintro e w5 ⟨rfl, m5, hw5⟩
          have h6 : RF w5 B t s' x2 x3 x4 x5 := by rw [hw5]; exact HRF.out.drewN m5
          have r6 : Blk w5 W.heap.size .empty := by rw [hw5]; exact HR0.out
          have c6 : Blk w5 N ⟨a, b, c, d⟩ := by rw [hw5]; exact HAC.out
          have g6 : W.grownBy w5 (some B) := by rw [hw5]; exact jgdrewN HGR.out m5
          clear hw5 HRF HR0 HAC HGR
          cases q with
          | true =>
            obtain ⟨⟨z0, z1, z2, z3⟩, hz⟩ : ∃ Z, (WSet.mk a b c d).not = Z := ⟨_, rfl⟩
            have HNT := Lib.hid fun W => refNot_any a b c d W
            rw [hz] at HNT
            have HV2 : Hid (clsV t ⟨k, 0, a0⟩ = ⟨z0, z1, z2, z3⟩) := Lib.hid (by rw [HV.out, ← hz]; rfl)
            clear hz
            obtain ⟨k0, k1, k2, k3⟩ := c6.cells4
            go_wp2_with fail
            refine (HNT.out _).mono ?_
            rintro e w7 ⟨rfl, hb7⟩
            have h7 := h6.below hb7 h6.lt
            have c7 := c6.below hb7 c6.lt
            have r7 := r6.below hb7 r6.lt
            have g7 := jgbe g6 hb7
            clear hb7 h6 c6 r6 g6 k0 k1 k2 k3
            obtain ⟨l0, l1, l2, l3⟩ := c7.cells4
            obtain ⟨m0, m1, m2, m3⟩ := c7.frees
            go_upto_region 11 with fail
            have h8 := h7.store (b := N) (by omega) (.int .u64 (z0.toNat : Int)) (.int .u64 (z1.toNat : Int)) (.int .u64 (z2.toNat : Int)) (.int .u64 (z3.toNat : Int))
            have c8 := c7.store4 z0 z1 z2 z3
            have r8 := r7.others4 (b := N) (by omega) (.int .u64 (z0.toNat : Int)) (.int .u64 (z1.toNat : Int)) (.int .u64 (z2.toNat : Int)) (.int .u64 (z3.toNat : Int))
            have g8 := jgstore g7 (b := N) (by omega) (.int .u64 (z0.toNat : Int)) (.int .u64 (z1.toNat : Int)) (.int .u64 (z2.toNat : Int)) (.int .u64 (z3.toNat : Int))
            generalize (((w7.setCell ⟨N, 0, none⟩ (.int .u64 (z0.toNat : Int))).setCell ⟨N, 1, none⟩ (.int .u64 (z1.toNat : Int))).setCell ⟨N, 2, none⟩ (.int .u64 (z2.toNat : Int))).setCell ⟨N, 3, none⟩ (.int .u64 (z3.toNat : Int)) = w8 at h8 c8 r8 g8 ⊢
            clear l0 l1 l2 l3 m0 m1 m2 m3 h7 c7 r7 g7
            have ww1 : IntKind.i64.wrap ((s'.k : Int) + 1) = (s'.k : Int) + 1 := jwrap (by have := HKL.out; omega) (by have := HKL.out; omega)
            obtain ⟨qz, hqz⟩ : ∃ q, (WSet.mk z0 z1 z2 z3).isNone = q := ⟨_, rfl⟩
            have HQZ := Lib.hid hqz
            obtain ⟨k0, k1, k2, k3⟩ := c8.cells4
            have eqz := fun w => eq_noneA (WSet.mk z0 z1 z2 z3) w
            rw [hqz] at eqz
            dsimp only at eqz
            clear hqz
            go_wp2_with fail
            refine (HOK.out _ h8).mono ?_
            rintro e w9 ⟨rfl, hw9⟩
            rw [hw9]
            clear hw9
            cases qz with
            | true =>
              have hem : (WSet.mk z0 z1 z2 z3) = .empty := by have := HQZ.out; unfold WSet.isNone at this; exact of_decide_eq_true this
              have HF := Lib.hid (HZ.out (HV2.out.trans hem))
              have HW := Lib.hid fun W h => rWrong_any t s' x2 x3 x4 x5 3 s'.k W B h
              have HFR : Hid (failR s' 3 s'.k = ⟨s'.k, 3, s'.k⟩) := Lib.hid (by unfold failR; rw [if_pos he])
              obtain ⟨c0, c1, cc6, cc7⟩ := h8.cells
              clear hem he
              go_wp2_with fail
              refine (HW.out _ h8).mono ?_
              rintro e w10 ⟨rfl, h10, gb⟩
              rw [HFR.out] at h10
              have c10 := c8.kept gb (jne (by omega))
              have r10 := r8.kept gb (jne hBW)
              have g10 := jgtrans g8 gb
              clear h8 c8 r8 g8 gb c0 c1 cc6 cc7 k0 k1 k2 k3
              obtain ⟨c0, c1, cc6, cc7⟩ := h10.cells
              dsimp only at c1
              have f1 := h10.free 1
              go_upto_region 14 with fail
              have h20 := h10.step (by have := HKL.out; dsimp only; omega)
              have c20 := c10.other ⟨B, 1, none⟩ (by show B ≠ _; omega) (.int .i64 ((s'.k : Int) + 1))
              have r20 := r10.other ⟨B, 1, none⟩ (by show B ≠ _; omega) (.int .i64 ((s'.k : Int) + 1))
              have g20 := jgtrans g10 (jgset w10 B 1 (.int .i64 ((s'.k : Int) + 1)))
              dsimp only at h20
              generalize w10.setCell ⟨B, 1, none⟩ (.int .i64 ((s'.k : Int) + 1)) = w20 at h20 c20 r20 g20 ⊢
              clear c0 c1 cc6 cc7 f1
              obtain ⟨c0, c1, c2, c3⟩ := c20.cells4
              obtain ⟨d0, d1, d2, d3⟩ := r20.cells
              obtain ⟨f0, f1, f2, f3⟩ := r20.frees
              go_wp2_with fail
              refine bodyPost_ret ((r20.store4 z0 z1 z2 z3).results rfl _ rfl) rfl ⟨_, _, rfl, ?_, h20.store (by omega) _ _ _ _, jgstore g20 (Nat.le_refl _) _ _ _ _⟩
              exact ⟨fun e => (by rw [HF.out.1] at e; cases e), fun _ => ⟨HF.out.1.symm, HF.out.2.symm⟩⟩
            | false =>
              have hem : (WSet.mk z0 z1 z2 z3) ≠ .empty := by have := HQZ.out; unfold WSet.isNone at this; exact of_decide_eq_false this
              have HF := Lib.hid (HO.out (by rw [HV2.out]; exact hem))
              have HE0 := Lib.hid he
              clear hem he
              obtain ⟨c0, c1, cc6, cc7⟩ := h8.cells
              have f1 := h8.free 1
              go_upto_region 14 with fail
              have h20 := h8.step (by have := HKL.out; (try rw [fail_k]); omega)
              have c20 := c8.other ⟨B, 1, none⟩ (by show B ≠ _; omega) (.int .i64 ((s'.k : Int) + 1))
              have r20 := r8.other ⟨B, 1, none⟩ (by show B ≠ _; omega) (.int .i64 ((s'.k : Int) + 1))
              have g20 := jgtrans g8 (jgset w8 B 1 (.int .i64 ((s'.k : Int) + 1)))
              generalize w8.setCell ⟨B, 1, none⟩ (.int .i64 ((s'.k : Int) + 1)) = w20 at h20 c20 r20 g20 ⊢
              clear c0 c1 cc6 cc7 f1
              obtain ⟨c0, c1, c2, c3⟩ := c20.cells4
              obtain ⟨d0, d1, d2, d3⟩ := r20.cells
              obtain ⟨f0, f1, f2, f3⟩ := r20.frees
              go_wp2_with fail
              refine bodyPost_ret ((r20.store4 z0 z1 z2 z3).results rfl _ rfl) rfl ⟨_, _, rfl, ?_, h20.store (by omega) _ _ _ _, jgstore g20 (Nat.le_refl _) _ _ _ _⟩
              exact ⟨fun _ => ⟨HV2.out.symm, HF.out.symm⟩, fun e => absurd (by rw [HF.out]; exact HE0.out) e⟩
          | false =>
            obtain ⟨⟨z0, z1, z2, z3⟩, hz⟩ : ∃ Z, WSet.mk a b c d = Z := ⟨_, rfl⟩
            have HV2 : Hid (clsV t ⟨k, 0, a0⟩ = ⟨z0, z1, z2, z3⟩) := Lib.hid (by rw [HV.out, ← hz]; rfl)
            rw [hz] at c6
            clear hz
            go_upto_region 11 with fail
            have h8 := h6
            have c8 := c6
            have r8 := r6
            have g8 := g6
            generalize w5 = w8 at h8 c8 r8 g8 ⊢
            clear h6 c6 r6 g6
            have ww1 : IntKind.i64.wrap ((s'.k : Int) + 1) = (s'.k : Int) + 1 := jwrap (by have := HKL.out; omega) (by have := HKL.out; omega)
            obtain ⟨qz, hqz⟩ : ∃ q, (WSet.mk z0 z1 z2 z3).isNone = q := ⟨_, rfl⟩
            have HQZ := Lib.hid hqz
            obtain ⟨k0, k1, k2, k3⟩ := c8.cells4
            have eqz := fun w => eq_noneA (WSet.mk z0 z1 z2 z3) w
            rw [hqz] at eqz
            dsimp only at eqz
            clear hqz
            go_wp2_with fail
            refine (HOK.out _ h8).mono ?_
            rintro e w9 ⟨rfl, hw9⟩
            rw [hw9]
            clear hw9
            cases qz with
            | true =>
              have hem : (WSet.mk z0 z1 z2 z3) = .empty := by have := HQZ.out; unfold WSet.isNone at this; exact of_decide_eq_true this
              have HF := Lib.hid (HZ.out (HV2.out.trans hem))
              have HW := Lib.hid fun W h => rWrong_any t s' x2 x3 x4 x5 3 s'.k W B h
              have HFR : Hid (failR s' 3 s'.k = ⟨s'.k, 3, s'.k⟩) := Lib.hid (by unfold failR; rw [if_pos he])
              obtain ⟨c0, c1, cc6, cc7⟩ := h8.cells
              clear hem he
              go_wp2_with fail
              refine (HW.out _ h8).mono ?_
              rintro e w10 ⟨rfl, h10, gb⟩
              rw [HFR.out] at h10
              have c10 := c8.kept gb (jne (by omega))
              have r10 := r8.kept gb (jne hBW)
              have g10 := jgtrans g8 gb
              clear h8 c8 r8 g8 gb c0 c1 cc6 cc7 k0 k1 k2 k3
              obtain ⟨c0, c1, cc6, cc7⟩ := h10.cells
              dsimp only at c1
              have f1 := h10.free 1
              go_upto_region 14 with fail
              have h20 := h10.step (by have := HKL.out; dsimp only; omega)
              have c20 := c10.other ⟨B, 1, none⟩ (by show B ≠ _; omega) (.int .i64 ((s'.k : Int) + 1))
              have r20 := r10.other ⟨B, 1, none⟩ (by show B ≠ _; omega) (.int .i64 ((s'.k : Int) + 1))
              have g20 := jgtrans g10 (jgset w10 B 1 (.int .i64 ((s'.k : Int) + 1)))
              dsimp only at h20
              generalize w10.setCell ⟨B, 1, none⟩ (.int .i64 ((s'.k : Int) + 1)) = w20 at h20 c20 r20 g20 ⊢
              clear c0 c1 cc6 cc7 f1
              obtain ⟨c0, c1, c2, c3⟩ := c20.cells4
              obtain ⟨d0, d1, d2, d3⟩ := r20.cells
              obtain ⟨f0, f1, f2, f3⟩ := r20.frees
              go_wp2_with fail
              refine bodyPost_ret ((r20.store4 z0 z1 z2 z3).results rfl _ rfl) rfl ⟨_, _, rfl, ?_, h20.store (by omega) _ _ _ _, jgstore g20 (Nat.le_refl _) _ _ _ _⟩
              exact ⟨fun e => (by rw [HF.out.1] at e; cases e), fun _ => ⟨HF.out.1.symm, HF.out.2.symm⟩⟩
            | false =>
              have hem : (WSet.mk z0 z1 z2 z3) ≠ .empty := by have := HQZ.out; unfold WSet.isNone at this; exact of_decide_eq_false this
              have HF := Lib.hid (HO.out (by rw [HV2.out]; exact hem))
              have HE0 := Lib.hid he
              clear hem he
              obtain ⟨c0, c1, cc6, cc7⟩ := h8.cells
              have f1 := h8.free 1
              go_upto_region 14 with fail
              have h20 := h8.step (by have := HKL.out; (try rw [fail_k]); omega)
              have c20 := c8.other ⟨B, 1, none⟩ (by show B ≠ _; omega) (.int .i64 ((s'.k : Int) + 1))
              have r20 := r8.other ⟨B, 1, none⟩ (by show B ≠ _; omega) (.int .i64 ((s'.k : Int) + 1))
              have g20 := jgtrans g8 (jgset w8 B 1 (.int .i64 ((s'.k : Int) + 1)))
              generalize w8.setCell ⟨B, 1, none⟩ (.int .i64 ((s'.k : Int) + 1)) = w20 at h20 c20 r20 g20 ⊢
              clear c0 c1 cc6 cc7 f1
              obtain ⟨c0, c1, c2, c3⟩ := c20.cells4
              obtain ⟨d0, d1, d2, d3⟩ := r20.cells
              obtain ⟨f0, f1, f2, f3⟩ := r20.frees
              go_wp2_with fail
              refine bodyPost_ret ((r20.store4 z0 z1 z2 z3).results rfl _ rfl) rfl ⟨_, _, rfl, ?_, h20.store (by omega) _ _ _ _, jgstore g20 (Nat.le_refl _) _ _ _ _⟩
              exact ⟨fun _ => ⟨HV2.out.symm, HF.out.symm⟩, fun e => absurd (by rw [HF.out]; exact HE0.out) e⟩
    · have HF := Lib.hid (HBAD.out _ _ _ HCI.out he)
      rw [decide_eq_false he] at HOK
      have HE := Lib.hid he
      clear he HGOOD HBAD HI
      go_wp2_with fail
      refine (HOK.out _ HRF.out).mono ?_
      rintro e w4 ⟨rfl, hw4⟩
      rw [hw4]
      clear hw4
      have h6 := HRF.out
      have r6 := HR0.out
      have c6 := HAC.out
      have g6 := HGR.out
      clear HRF HR0 HAC HGR
      cases q with
      | true =>
        obtain ⟨⟨z0, z1, z2, z3⟩, hz⟩ : ∃ Z, (WSet.mk a b c d).not = Z := ⟨_, rfl⟩
        have HNT := Lib.hid fun W => refNot_any a b c d W
        rw [hz] at HNT
        clear hz
        obtain ⟨k0, k1, k2, k3⟩ := c6.cells4
        go_wp2_with fail
        refine (HNT.out _).mono ?_
        rintro e w7 ⟨rfl, hb7⟩
        have h7 := h6.below hb7 h6.lt
        have c7 := c6.below hb7 c6.lt
        have r7 := r6.below hb7 r6.lt
        have g7 := jgbe g6 hb7
        clear hb7 h6 c6 r6 g6 k0 k1 k2 k3
        obtain ⟨l0, l1, l2, l3⟩ := c7.cells4
        obtain ⟨m0, m1, m2, m3⟩ := c7.frees
        go_upto_region 11 with fail
        have h8 := h7.store (b := N) (by omega) (.int .u64 (z0.toNat : Int)) (.int .u64 (z1.toNat : Int)) (.int .u64 (z2.toNat : Int)) (.int .u64 (z3.toNat : Int))
        have c8 := c7.store4 z0 z1 z2 z3
        have r8 := r7.others4 (b := N) (by omega) (.int .u64 (z0.toNat : Int)) (.int .u64 (z1.toNat : Int)) (.int .u64 (z2.toNat : Int)) (.int .u64 (z3.toNat : Int))
        have g8 := jgstore g7 (b := N) (by omega) (.int .u64 (z0.toNat : Int)) (.int .u64 (z1.toNat : Int)) (.int .u64 (z2.toNat : Int)) (.int .u64 (z3.toNat : Int))
        generalize (((w7.setCell ⟨N, 0, none⟩ (.int .u64 (z0.toNat : Int))).setCell ⟨N, 1, none⟩ (.int .u64 (z1.toNat : Int))).setCell ⟨N, 2, none⟩ (.int .u64 (z2.toNat : Int))).setCell ⟨N, 3, none⟩ (.int .u64 (z3.toNat : Int)) = w8 at h8 c8 r8 g8 ⊢
        clear l0 l1 l2 l3 m0 m1 m2 m3 h7 c7 r7 g7
        have ww1 : IntKind.i64.wrap ((s'.k : Int) + 1) = (s'.k : Int) + 1 := jwrap (by have := HKL.out; omega) (by have := HKL.out; omega)
        go_wp2_with fail
        refine (HOK.out _ h8).mono ?_
        rintro e w9 ⟨rfl, hw9⟩
        rw [hw9]
        clear hw9
        obtain ⟨c0, c1, cc6, cc7⟩ := h8.cells
        have f1 := h8.free 1
        go_upto_region 14 with fail
        have h20 := h8.step (by have := HKL.out; (try rw [fail_k]); omega)
        have c20 := c8.other ⟨B, 1, none⟩ (by show B ≠ _; omega) (.int .i64 ((s'.k : Int) + 1))
        have r20 := r8.other ⟨B, 1, none⟩ (by show B ≠ _; omega) (.int .i64 ((s'.k : Int) + 1))
        have g20 := jgtrans g8 (jgset w8 B 1 (.int .i64 ((s'.k : Int) + 1)))
        generalize w8.setCell ⟨B, 1, none⟩ (.int .i64 ((s'.k : Int) + 1)) = w20 at h20 c20 r20 g20 ⊢
        clear c0 c1 cc6 cc7 f1
        obtain ⟨c0, c1, c2, c3⟩ := c20.cells4
        obtain ⟨d0, d1, d2, d3⟩ := r20.cells
        obtain ⟨f0, f1, f2, f3⟩ := r20.frees
        go_wp2_with fail
        refine bodyPost_ret ((r20.store4 z0 z1 z2 z3).results rfl _ rfl) rfl ⟨_, _, rfl, ?_, h20.store (by omega) _ _ _ _, jgstore g20 (Nat.le_refl _) _ _ _ _⟩
        exact ⟨fun e => absurd (by rw [← HF.out.1]; exact e) HE.out, fun _ => ⟨HF.out.1.symm, HF.out.2.symm⟩⟩
      | false =>
        obtain ⟨⟨z0, z1, z2, z3⟩, hz⟩ : ∃ Z, WSet.mk a b c d = Z := ⟨_, rfl⟩
        rw [hz] at c6
        clear hz
        go_upto_region 11 with fail
        have h8 := h6
        have c8 := c6
        have r8 := r6
        have g8 := g6
        generalize wr = w8 at h8 c8 r8 g8 ⊢
        clear h6 c6 r6 g6
        have ww1 : IntKind.i64.wrap ((s'.k : Int) + 1) = (s'.k : Int) + 1 := jwrap (by have := HKL.out; omega) (by have := HKL.out; omega)
        go_wp2_with fail
        refine (HOK.out _ h8).mono ?_
        rintro e w9 ⟨rfl, hw9⟩
        rw [hw9]
        clear hw9
        obtain ⟨c0, c1, cc6, cc7⟩ := h8.cells
        have f1 := h8.free 1
        go_upto_region 14 with fail
        have h20 := h8.step (by have := HKL.out; (try rw [fail_k]); omega)
        have c20 := c8.other ⟨B, 1, none⟩ (by show B ≠ _; omega) (.int .i64 ((s'.k : Int) + 1))
        have r20 := r8.other ⟨B, 1, none⟩ (by show B ≠ _; omega) (.int .i64 ((s'.k : Int) + 1))
        have g20 := jgtrans g8 (jgset w8 B 1 (.int .i64 ((s'.k : Int) + 1)))
        generalize w8.setCell ⟨B, 1, none⟩ (.int .i64 ((s'.k : Int) + 1)) = w20 at h20 c20 r20 g20 ⊢
        clear c0 c1 cc6 cc7 f1
        obtain ⟨c0, c1, c2, c3⟩ := c20.cells4
        obtain ⟨d0, d1, d2, d3⟩ := r20.cells
        obtain ⟨f0, f1, f2, f3⟩ := r20.frees
        go_wp2_with fail
        refine bodyPost_ret ((r20.store4 z0 z1 z2 z3).results rfl _ rfl) rfl ⟨_, _, rfl, ?_, h20.store (by omega) _ _ _ _, jgstore g20 (Nat.le_refl _) _ _ _ _⟩
        exact ⟨fun e => absurd (by rw [← HF.out.1]; exact e) HE.out, fun _ => ⟨HF.out.1.symm, HF.out.2.symm⟩⟩
end Go.Proofs.YtdnbnigebejgjaaGreatDoor
