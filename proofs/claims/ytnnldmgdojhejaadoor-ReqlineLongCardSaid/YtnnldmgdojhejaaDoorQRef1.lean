/-
  The reference's space, Parts, Long of lines.
-/
import Derived.Test.YtnnldmgdojhejaaDoorQIs
import Derived.Laws.DeepStrings4
namespace Go.Proofs.YtnnldmgdojhejaaDoor
open Go.RowKit
attribute [local go_sem] ba_get
theorem qcut (l : List UInt8) (a b : Nat) : (ByteArray.mk l.toArray).extract a b = ⟨((l.take b).drop a).toArray⟩ := by
  apply ByteArray.ext
  rw [ByteArray.data_extract, List.extract_toArray, List.extract_eq_take_drop]
  rw [List.drop_take]
theorem qtake (l : List UInt8) (k : Nat) : (ByteArray.mk l.toArray).extract 0 k = ⟨(l.take k).toArray⟩ := by rw [qcut]; simp
theorem qdrop (l : List UInt8) (k : Nat) : (ByteArray.mk l.toArray).extract k l.length = ⟨(l.drop k).toArray⟩ := by rw [qcut, List.take_length]
theorem qwrap {x : Int} (h1 : -1000000000000000 < x) (h2 : x < 1000000000000000) : IntKind.i64.wrap x = x := by
  simp only [IntKind.wrap, IntKind.bits, IntKind.signed]
  simp
  omega
/-- Where the first space is. -/
def spN : List UInt8 → Option Nat
  | [] => none
  | c :: r => if c.toNat = 32 then some 0 else (spN r).map (· + 1)
theorem spN_lt : ∀ {l : List UInt8} {i : Nat}, spN l = some i → i < l.length
  | [], i, h => by cases h
  | c :: r, i, h => by
    unfold spN at h
    split at h
    · cases h
      simp
    · cases hr : spN r with
      | none => rw [hr] at h; cases h
      | some j =>
        rw [hr] at h
        cases h
        have := spN_lt hr
        simp
        omega
/-- The offset of the first space from a place on, as the reference says it. -/
def spI (l : List UInt8) (k : Nat) : Int := match spN (l.drop k) with
  | none => -1
  | some i => ((k + i : Nat) : Int)
theorem spI_at {l : List UInt8} {k : Nat} (h : k < l.length) : spI l k = if (l[k]).toNat = 32 then (k : Int) else spI l (k + 1) := by
  unfold spI
  rw [List.drop_eq_getElem_cons h, spN]
  by_cases hs : (l[k]).toNat = 32
  · rw [if_pos hs, if_pos hs]
    rfl
  · rw [if_neg hs, if_neg hs]
    cases hr : spN (l.drop (k + 1)) with
    | none => rfl
    | some j =>
      show (((k + (j + 1) : Nat)) : Int) = ((k + 1 + j : Nat) : Int)
      omega
theorem spI_end {l : List UInt8} {k : Nat} (h : l.length ≤ k) : spI l k = -1 := by
  unfold spI
  rw [List.drop_eq_nil_of_le h]
  rfl
set_option maxHeartbeats 1000000 in
theorem refSpace_any (l : List UInt8) (hl : l.length < 200000000000000) (k0 : Nat) (hk0 : k0 ≤ l.length) (w : World) :
    Calls Tryd.prog 18 #[.string ⟨l.toArray⟩, .int .i64 (k0 : Int)] w fun e w' => e = .returned (.int .i64 (spI l k0)) ∧ w = w' := by
  obtain ⟨R, hR⟩ : ∃ R, spI l k0 = R := ⟨_, rfl⟩
  rw [hR]
  have HR := Lib.hid hR
  clear hR
  go_enter Tryd.func18, Tryd.ntmps18
  go_wp2_with fail
  go_loopw [5] (fun i wr => ∃ k : Nat, k ≤ l.length ∧ i = .int .i64 k ∧ Hid (spI l k = R) ∧ wr = w) (fun i _ => l.length - (intOf i).toNat)
  case atStart => exact ⟨k0, hk0, rfl, HR, rfl⟩
  case round =>
    obtain ⟨k, hk, rfl, hp, rfl⟩ := hrel
    by_cases hlt : k < l.length
    · have h1 : decide ((k : Int) < (l.length : Int)) = true := decide_eq_true (by omega)
      have hb2 : (k : Int) < (l.length : Int) := by omega
      have hat := spI_at hlt
      obtain ⟨y, hy⟩ : ∃ y, (l[k]).toNat = y := ⟨_, rfl⟩
      rw [hy] at hat
      by_cases he : y = 32
      · have q1 : ((y : Int) == 32) = true := by rw [beq_iff_eq]; omega
        have hres : Hid (R = (k : Int)) := Lib.hid (by rw [← hp.out, hat, if_pos he])
        clear hat he
        go_wp2_with fail
        go_ret
        exact ⟨by rw [hres.out]; rfl, rfl⟩
      · have q1 : ((y : Int) == 32) = false := by rw [beq_eq_false_iff_ne]; omega
        have hnext : Hid (spI l (k + 1) = R) := Lib.hid (by rw [← hp.out, hat, if_neg he])
        clear hat he
        go_wp2_with fail
        go_roundw
        case rel => exact ⟨k + 1, by omega, by go_num, hnext, trivial⟩
        case measure => simp [intOf]; omega
    · have h1 : decide ((k : Int) < (l.length : Int)) = false := decide_eq_false (by omega)
      have hres : Hid (R = -1) := Lib.hid (by rw [← hp.out, spI_end (by omega)])
      go_wp2_with fail
      go_ret
      exact ⟨by rw [hres.out]; rfl, rfl⟩
/-- The parts of a line. -/
def prtR (l : List UInt8) : List UInt8 × List UInt8 × List UInt8 × Nat := match spN l with
  | none => (l, [], [], 1)
  | some a => match spN (l.drop (a + 1)) with
    | none => (l.take a, l.drop (a + 1), [], 2)
    | some b => (l.take a, (l.drop (a + 1)).take b, l.drop (a + 1 + b + 1), 3)
def prtW (p : List UInt8 × List UInt8 × List UInt8 × Nat) : Value := .tuple #[.string ⟨p.1.toArray⟩, .string ⟨p.2.1.toArray⟩, .string ⟨p.2.2.1.toArray⟩, .int .i64 (p.2.2.2 : Nat)]
theorem res4 {fn : Func} {p q r s : Tmp} (h : fn.results = #[.tmp p, .tmp q, .tmp r, .tmp s]) (tmps : Array Value) (w : World) (a b c d : Value) (ha : tmps.getD p undef = a) (hb : tmps.getD q undef = b) (hc : tmps.getD r undef = c) (hd : tmps.getD s undef = d) :
    (Go.results fn tmps).run Tryd.prog w = .ok (.tuple #[a, b, c, d]) w := by
  have ha' : tmps[p]?.getD undef = a := by simpa using ha
  have hb' : tmps[q]?.getD undef = b := by simpa using hb
  have hc' : tmps[r]?.getD undef = c := by simpa using hc
  have hd' : tmps[s]?.getD undef = d := by simpa using hd
  simp [Go.results, h, ha', hb', hc', hd', go_sem]
set_option maxHeartbeats 2000000 in
theorem refParts8_any (l : List UInt8) (hl : l.length < 100000000000000) (w : World) :
    Calls Tryd.prog 10 #[.string ⟨l.toArray⟩] w fun e w' => e = .returned (prtW (prtR l)) ∧ Below w.heap.size w w' := by
  have hs0 : spI l 0 = match spN l with | none => -1 | some i => (i : Int) := by
    unfold spI
    rw [List.drop_zero]
    cases spN l with
    | none => rfl
    | some i => show ((0 + i : Nat) : Int) = _; rw [Nat.zero_add]
  cases ha : spN l with
  | none =>
    rw [ha] at hs0
    have HA := Lib.hid hs0
    have HR : Hid (prtR l = (l, [], [], 1)) := Lib.hid (by unfold prtR; rw [ha])
    clear hs0 ha
    go_enter Tryd.func10, Tryd.ntmps10
    go_wp2_with fail
    refine (refSpace_any l (by omega) 0 (Nat.zero_le _) _).mono ?_
    rintro e w' ⟨rfl, rfl⟩
    rw [HA.out]
    go_wp2_with fail
    exact bodyPost_ret (res4 rfl _ _ _ _ _ _ rfl rfl rfl rfl) rfl ⟨by rw [HR.out]; rfl, Below.refl _ _⟩
  | some a =>
    rw [ha] at hs0
    have hal := spN_lt ha
    have hs1 : spI l (a + 1) = match spN (l.drop (a + 1)) with | none => -1 | some i => ((a + 1 + i : Nat) : Int) := rfl
    have HA := Lib.hid hs0
    have d1 : decide ((a : Int) < 0) = false := decide_eq_false (by omega)
    have w1 : IntKind.i64.wrap ((a : Int) + 1) = (a : Int) + 1 := qwrap (by omega) (by omega)
    have hta := qtake l a
    have hb1 : (a : Int) ≤ (l.length : Int) := by omega
    have hb2 : (a : Int) + 1 ≤ (l.length : Int) := by omega
    have hn1 : ((a : Int) + 1).toNat = a + 1 := by omega
    have hSP : Hid (∀ W, Calls Tryd.prog 18 #[.string ⟨l.toArray⟩, .int .i64 ((a : Int) + 1)] W fun e w' => e = .returned (.int .i64 (spI l (a + 1))) ∧ W = w') := Lib.hid (fun W => by
      have := refSpace_any l (by omega) (a + 1) (by omega) W
      rw [show (((a + 1 : Nat)) : Int) = (a : Int) + 1 by omega] at this
      exact this)
    cases hb : spN (l.drop (a + 1)) with
    | none =>
      rw [hb] at hs1
      have HB := Lib.hid hs1
      have HR : Hid (prtR l = (l.take a, l.drop (a + 1), [], 2)) := Lib.hid (by unfold prtR; rw [ha]; dsimp only; rw [hb])
      have hda := qdrop l (a + 1)
      clear hs0 ha hs1 hb
      go_enter Tryd.func10, Tryd.ntmps10
      go_wp2_with fail
      refine (refSpace_any l (by omega) 0 (Nat.zero_le _) _).mono ?_
      rintro e w' ⟨rfl, rfl⟩
      rw [HA.out]
      go_wp2_with fail
      refine (hSP.out _).mono ?_
      rintro e w' ⟨rfl, rfl⟩
      rw [HB.out]
      go_wp2_with fail
      go_region
      all_goals
        go_wp2_with fail
        exact bodyPost_ret (res4 rfl _ _ _ _ _ _ rfl rfl rfl rfl) rfl ⟨by rw [HR.out]; rfl, (Below.refl _ _).drew⟩
    | some b =>
      rw [hb] at hs1
      have hbl := spN_lt hb
      rw [List.length_drop] at hbl
      dsimp only at hs1
      obtain ⟨b', hb'⟩ : ∃ b', a + 1 + b = b' := ⟨_, rfl⟩
      rw [hb'] at hs1
      have HB := Lib.hid hs1
      have HR : Hid (prtR l = (l.take a, (l.drop (a + 1)).take b, l.drop (b' + 1), 3)) := Lib.hid (by unfold prtR; rw [ha]; dsimp only; rw [hb]; dsimp only; rw [hb'])
      have hmid := qcut l (a + 1) b'
      have hend := qdrop l (b' + 1)
      rw [List.drop_take] at hmid
      rw [show b' - (a + 1) = b by omega] at hmid
      have d2 : decide ((b' : Int) < 0) = false := decide_eq_false (by omega)
      have w2 : IntKind.i64.wrap ((b' : Int) + 1) = (b' : Int) + 1 := qwrap (by omega) (by omega)
      have hb3 : (b' : Int) ≤ (l.length : Int) := by omega
      have hb4 : (b' : Int) + 1 ≤ (l.length : Int) := by omega
      have hb5 : (a : Int) + 1 ≤ (b' : Int) := by omega
      have hn2 : ((b' : Int) + 1).toNat = b' + 1 := by omega
      have HB' := Lib.hid hb'
      clear hs0 ha hs1 hb hb'
      go_enter Tryd.func10, Tryd.ntmps10
      go_wp2_with fail
      refine (refSpace_any l (by omega) 0 (Nat.zero_le _) _).mono ?_
      rintro e w' ⟨rfl, rfl⟩
      rw [HA.out]
      go_wp2_with fail
      refine (hSP.out _).mono ?_
      rintro e w' ⟨rfl, rfl⟩
      rw [HB.out]
      go_wp2_with fail
      go_region
      all_goals
        go_wp2_with fail
        exact bodyPost_ret (res4 rfl _ _ _ _ _ _ rfl rfl rfl rfl) rfl ⟨by rw [HR.out]; rfl, (Below.refl _ _).drew⟩
/-- Whether a line is too long: the status and the place. -/
def lngR (l : List UInt8) : Nat × Nat :=
  if 16 < (prtR l).1.length then (400, 16)
  else if 1024 < (prtR l).2.1.length then (414, (prtR l).1.length + 1 + 1024)
  else if 512 < (prtR l).2.2.1.length then (400, (prtR l).1.length + 1 + (prtR l).2.1.length + 1 + 512)
  else (0, l.length)
def lngW (p : Nat × Nat) : Value := .tuple #[.int .i64 (p.1 : Int), .int .i64 (p.2 : Int)]
theorem prtR_le (l : List UInt8) : (prtR l).1.length ≤ l.length ∧ (prtR l).2.1.length ≤ l.length ∧ (prtR l).2.2.1.length ≤ l.length := by
  unfold prtR
  split
  · simp
  · split
    · simp
      omega
    · simp
      omega
set_option maxHeartbeats 2000000 in
theorem refLong_any (l : List UInt8) (hl : l.length < 100000000000000) (w : World) :
    Calls Tryd.prog 12 #[.string ⟨l.toArray⟩] w fun e w' => e = .returned (lngW (lngR l)) ∧ Below w.heap.size w w' := by
  have hle := prtR_le l
  have hR : lngR l = _ := rfl
  unfold lngR at hR
  obtain ⟨⟨a, b, c, k⟩, hp⟩ : ∃ p, prtR l = p := ⟨_, rfl⟩
  rw [hp] at hR hle
  dsimp only at hR hle
  have HP := Lib.hid hp
  clear hp
  obtain ⟨z, hz⟩ : ∃ z, lngR l = z := ⟨_, rfl⟩
  unfold lngR at hz
  rw [HP.out] at hz
  dsimp only at hz
  have HZ : Hid (lngR l = z) := Lib.hid (by unfold lngR; rw [HP.out]; exact hz)
  clear hR
  by_cases h1 : 16 < a.length
  · have d1 : decide ((16 : Int) < (a.length : Int)) = true := decide_eq_true (by omega)
    have d1n : decide (16 < a.length) = true := decide_eq_true h1
    have hz' : Hid (z = (400, 16)) := Lib.hid (by rw [← hz, if_pos h1])
    clear h1 hz
    go_enter Tryd.func12, Tryd.ntmps12
    go_wp2_with fail
    refine (refParts8_any l hl _).mono ?_
    rintro e w' ⟨rfl, hb⟩
    rw [HP.out]
    unfold prtW
    go_wp2_with fail
    go_ret2
    exact ⟨by rw [HZ.out, hz'.out]; rfl, hb⟩
  have d1 : decide ((16 : Int) < (a.length : Int)) = false := decide_eq_false (by omega)
  have d1n : decide (16 < a.length) = false := decide_eq_false h1
  by_cases h2 : 1024 < b.length
  · have d2 : decide ((1024 : Int) < (b.length : Int)) = true := decide_eq_true (by omega)
    have d2n : decide (1024 < b.length) = true := decide_eq_true h2
    have w1 : IntKind.i64.wrap ((a.length : Int) + 1) = (a.length : Int) + 1 := qwrap (by omega) (by omega)
    have w2 : IntKind.i64.wrap ((a.length : Int) + 1 + 1024) = (a.length : Int) + 1 + 1024 := qwrap (by omega) (by omega)
    have hz' : Hid (z = (414, a.length + 1 + 1024)) := Lib.hid (by rw [← hz, if_neg h1, if_pos h2])
    clear h1 h2 hz
    go_enter Tryd.func12, Tryd.ntmps12
    go_wp2_with fail
    refine (refParts8_any l hl _).mono ?_
    rintro e w' ⟨rfl, hb⟩
    rw [HP.out]
    unfold prtW
    go_wp2_with fail
    go_ret2
    exact ⟨by rw [HZ.out, hz'.out]; rfl, hb⟩
  have d2 : decide ((1024 : Int) < (b.length : Int)) = false := decide_eq_false (by omega)
  have d2n : decide (1024 < b.length) = false := decide_eq_false h2
  by_cases h3 : 512 < c.length
  · have d3 : decide ((512 : Int) < (c.length : Int)) = true := decide_eq_true (by omega)
    have d3n : decide (512 < c.length) = true := decide_eq_true h3
    have w1 : IntKind.i64.wrap ((a.length : Int) + 1) = (a.length : Int) + 1 := qwrap (by omega) (by omega)
    have w2 : IntKind.i64.wrap ((a.length : Int) + 1 + (b.length : Int)) = (a.length : Int) + 1 + (b.length : Int) := qwrap (by omega) (by omega)
    have w3 : IntKind.i64.wrap ((a.length : Int) + 1 + (b.length : Int) + 1) = (a.length : Int) + 1 + (b.length : Int) + 1 := qwrap (by omega) (by omega)
    have w4 : IntKind.i64.wrap ((a.length : Int) + 1 + (b.length : Int) + 1 + 512) = (a.length : Int) + 1 + (b.length : Int) + 1 + 512 := qwrap (by omega) (by omega)
    have hz' : Hid (z = (400, a.length + 1 + b.length + 1 + 512)) := Lib.hid (by rw [← hz, if_neg h1, if_neg h2, if_pos h3])
    clear h1 h2 h3 hz
    go_enter Tryd.func12, Tryd.ntmps12
    go_wp2_with fail
    refine (refParts8_any l hl _).mono ?_
    rintro e w' ⟨rfl, hb⟩
    rw [HP.out]
    unfold prtW
    go_wp2_with fail
    go_ret2
    exact ⟨by rw [HZ.out, hz'.out]; rfl, hb⟩
  have d3 : decide ((512 : Int) < (c.length : Int)) = false := decide_eq_false (by omega)
  have d3n : decide (512 < c.length) = false := decide_eq_false h3
  have hz' : Hid (z = (0, l.length)) := Lib.hid (by rw [← hz, if_neg h1, if_neg h2, if_neg h3])
  clear h1 h2 h3 hz
  go_enter Tryd.func12, Tryd.ntmps12
  go_wp2_with fail
  refine (refParts8_any l hl _).mono ?_
  rintro e w' ⟨rfl, hb⟩
  rw [HP.out]
  unfold prtW
  go_wp2_with fail
  go_ret2
  exact ⟨by rw [HZ.out, hz'.out]; rfl, hb⟩
end Go.Proofs.YtnnldmgdojhejaaDoor
