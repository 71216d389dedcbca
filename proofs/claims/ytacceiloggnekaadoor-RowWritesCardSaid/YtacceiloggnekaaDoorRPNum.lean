/-
  The program's Number and Which for every word. The library's tables must lie in their variables.
-/
import Derived.Test.YtacceiloggnekaaDoorRPLay
import Derived.Test.YtacceiloggnekaaDoorRNumF
import Derived.Test.YtacceiloggnekaaDoorRNum
import Derived.Test.YtacceiloggnekaaDoorRWhich
namespace Go.Proofs.YtacceiloggnekaaDoor
open Go.RowKit
theorem number_none (l : List UInt8) (hl : l.length < 1000000) (low high : Int) (hN : numN l = none) (w : World) (hT : VT w) :
    Calls Tryd.prog 18 #[.string ⟨l.toArray⟩, .int .i64 low, .int .i64 high] w fun e w' => e = .returned (.tuple #[.int .i64 0, .int .i64 3]) ∧ Below w.heap.size w w' := by
  by_cases h : ∃ v, Lib.atoiAll l = .ok v
  · obtain ⟨v, hv⟩ := h
    obtain ⟨b1, b2⟩ := Lib.atoiAll_bounds hv
    have H := fun W => atoi_ok l hl v hv W
    have HT := Lib.hid hT
    have hcase := numN_none (n := v) hN
    obtain ⟨u, hu⟩ : ∃ u, Lib.itoa v = u := ⟨_, rfl⟩
    have HU := Lib.hid hu
    rw [hu] at hcase
    cases hq : (u == l)
    · have hq2 : (u != l) = true := by rw [bne, hq]; rfl
      clear hcase hN hu
      go_enter Tryd.func18, Tryd.ntmps18
      go_wp2_with fail
      refine (H _).mono ?_
      rintro e w1 ⟨rfl, hb⟩
      have HB := Lib.hid hb
      clear hb
      go_wp2_with fail
      refine (itoa_any v b1 b2 _ (HT.out.below HB.out)).mono ?_
      rintro e w2 ⟨rfl, hb2⟩
      have HB2 := Lib.hid (HB.out.trans (hb2.mono HB.out.size))
      clear hb2
      rw [HU.out]
      go_wp2_with fail
      go_ret2
      exact ⟨rfl, HB2.out⟩
    · have hq2 : (u != l) = false := by rw [bne, hq]; rfl
      have hul : u = l := by simpa using hq
      have hv2 : v < -999999999 ∨ 999999999 < v := hcase.elim (fun h => absurd hul h) id
      clear hcase hN hu hul
      by_cases h1 : v < -999999999
      · have d1 : decide (v < -999999999) = true := decide_eq_true h1
        clear hv2
        go_enter Tryd.func18, Tryd.ntmps18
        go_wp2_with fail
        refine (H _).mono ?_
        rintro e w1 ⟨rfl, hb⟩
        have HB := Lib.hid hb
        clear hb
        go_wp2_with fail
        refine (itoa_any v b1 b2 _ (HT.out.below HB.out)).mono ?_
        rintro e w2 ⟨rfl, hb2⟩
        have HB2 := Lib.hid (HB.out.trans (hb2.mono HB.out.size))
        clear hb2
        rw [HU.out]
        go_wp2_with fail
        go_ret2
        exact ⟨rfl, HB2.out⟩
      · have d1 : decide (v < -999999999) = false := decide_eq_false h1
        have d2 : decide (999999999 < v) = true := decide_eq_true (by omega)
        clear hv2
        go_enter Tryd.func18, Tryd.ntmps18
        go_wp2_with fail
        refine (H _).mono ?_
        rintro e w1 ⟨rfl, hb⟩
        have HB := Lib.hid hb
        clear hb
        go_wp2_with fail
        refine (itoa_any v b1 b2 _ (HT.out.below HB.out)).mono ?_
        rintro e w2 ⟨rfl, hb2⟩
        have HB2 := Lib.hid (HB.out.trans (hb2.mono HB.out.size))
        clear hb2
        rw [HU.out]
        go_wp2_with fail
        go_ret2
        exact ⟨rfl, HB2.out⟩
  · have hne : ∀ v, Lib.atoiAll l ≠ .ok v := fun v e => h ⟨v, e⟩
    have H := Lib.hid (atoi_bad l hl hne)
    have HT := Lib.hid hT
    clear h hne hN hT
    go_enter Tryd.func18, Tryd.ntmps18
    go_wp2_with fail
    refine (H.out _ HT.out).mono ?_
    rintro e w1 ⟨⟨x, p, rfl⟩, hb⟩
    go_wp2_with fail
    go_ret2
    exact ⟨rfl, hb⟩
theorem number_some (l : List UInt8) (hl : l.length < 1000000) (low high v : Int) (hN : numN l = some v) (w : World) (hT : VT w) :
    Calls Tryd.prog 18 #[.string ⟨l.toArray⟩, .int .i64 low, .int .i64 high] w fun e w' => e = .returned (.tuple #[.int .i64 (ranR low high (some v)).1, .int .i64 ((ranR low high (some v)).2 : Nat)]) ∧ Below w.heap.size w w' := by
  obtain ⟨hv, hi, b1, b2⟩ := numN_some hN
  have H := fun W => atoi_ok l hl v hv W
  have HT := Lib.hid hT
  have HU := Lib.hid hi
  have hq : (l == l) = true := by simp
  have hq2 : (l != l) = false := by rw [bne, hq]; rfl
  have d1 : decide (v < -999999999) = false := decide_eq_false (by omega)
  have d2 : decide (999999999 < v) = false := decide_eq_false (by omega)
  clear hv hi hN
  by_cases hr : v < low ∨ high < v
  · have HR : Hid (ranR low high (some v) = (0, 2)) := Lib.hid (if_pos hr)
    have hr1 : decide (v < low) = true ∨ decide (v < low) = false ∧ decide (high < v) = true := by
      by_cases h : v < low
      · exact .inl (decide_eq_true h)
      · exact .inr ⟨decide_eq_false h, decide_eq_true (hr.elim (fun g => absurd g h) id)⟩
    clear hr
    rcases hr1 with d3 | ⟨d3, d4⟩
    all_goals
      go_enter Tryd.func18, Tryd.ntmps18
      go_wp2_with fail
      refine (H _).mono ?_
      rintro e w1 ⟨rfl, hb⟩
      have HB := Lib.hid hb
      clear hb
      go_wp2_with fail
      refine (itoa_any v (by omega) (by omega) _ (HT.out.below HB.out)).mono ?_
      rintro e w2 ⟨rfl, hb2⟩
      have HB2 := Lib.hid (HB.out.trans (hb2.mono HB.out.size))
      clear hb2
      rw [HU.out]
      go_wp2_with fail
      go_ret2
      exact ⟨by rw [HR.out]; rfl, HB2.out⟩
  · have HR : Hid (ranR low high (some v) = (v, 0)) := Lib.hid (if_neg hr)
    have d3 : decide (v < low) = false := decide_eq_false (fun h => hr (.inl h))
    have d4 : decide (high < v) = false := decide_eq_false (fun h => hr (.inr h))
    clear hr
    go_enter Tryd.func18, Tryd.ntmps18
    go_wp2_with fail
    refine (H _).mono ?_
    rintro e w1 ⟨rfl, hb⟩
    have HB := Lib.hid hb
    clear hb
    go_wp2_with fail
    refine (itoa_any v (by omega) (by omega) _ (HT.out.below HB.out)).mono ?_
    rintro e w2 ⟨rfl, hb2⟩
    have HB2 := Lib.hid (HB.out.trans (hb2.mono HB.out.size))
    clear hb2
    rw [HU.out]
    go_wp2_with fail
    go_ret2
    exact ⟨by rw [HR.out]; rfl, HB2.out⟩
theorem number_any (l : List UInt8) (hl : l.length < 1000000) (low high : Int) (w : World) (hT : VT w) :
    Calls Tryd.prog 18 #[.string ⟨l.toArray⟩, .int .i64 low, .int .i64 high] w fun e w' => e = .returned (numV l low high) ∧ Below w.heap.size w w' := by
  unfold numV
  rw [numR_is]
  cases hN : numN l with
  | none => exact number_none l hl low high hN w hT
  | some v => exact number_some l hl low high v hN w hT
/-- The names as the library has them. -/
def namesZ (g : Nat → List UInt8) (k m : Nat) : List ByteArray := (List.range' k m).map fun j => ⟨(g j).toArray⟩
theorem namesZ_getD (g : Nat → List UInt8) (m j : Nat) (h : j < m) : (namesZ g 0 m).getD j ByteArray.empty = ⟨(g j).toArray⟩ := by
  unfold namesZ
  rw [List.getD_eq_getElem?_getD, List.getElem?_map, List.getElem?_range' h]
  simp
theorem namesZ_length (g : Nat → List UInt8) (k m : Nat) : (namesZ g k m).length = m := by simp [namesZ]
theorem ba_inj {a b : List UInt8} : ((⟨a.toArray⟩ : ByteArray) = ⟨b.toArray⟩) ↔ a = b := by
  constructor
  · intro h
    have := congrArg ByteArray.data h
    simpa using this
  · intro h; rw [h]
def whichI : Option Nat → Int
  | none => -1
  | some k => (k : Int)
theorem idx_is (l : List UInt8) (g : Nat → List UInt8) : ∀ (m k : Nat), Lib.idxFromS (namesZ g k m) ⟨l.toArray⟩ k = whichI (whichF l g k m)
  | 0, _ => rfl
  | m + 1, k => by
    show (if (⟨(g k).toArray⟩ : ByteArray) = ⟨l.toArray⟩ then (k : Int) else Lib.idxFromS (namesZ g (k + 1) m) ⟨l.toArray⟩ (k + 1)) = _
    have hat := whichF_at (l := l) (g := g) (n := k + (m + 1)) (k := k) (by omega)
    rw [show k + (m + 1) - k = m + 1 by omega, show k + (m + 1) - (k + 1) = m by omega] at hat
    rw [hat]
    by_cases h : g k = l
    · rw [if_pos (ba_inj.2 h), if_pos h]; rfl
    · rw [if_neg (fun e => h (ba_inj.1 e)), if_neg h]
      exact idx_is l g m (k + 1)
theorem six_any (l : List UInt8) (p : Option Addr) (n c : Nat) (hn : n < 1000000) (g : Nat → List UInt8) (w : World) (hC : CellsIn w p (n * 1) (strC g)) :
    Calls Tryd.prog 38 #[.slice p n c, .string ⟨l.toArray⟩] w fun e w' => e = .returned (.int .i64 (whichI (whichF l g 0 n))) ∧ w = w' := by
  rcases Nat.eq_zero_or_pos n with h0 | h0
  · subst h0
    exact (Any.slices_Index_string_empty lays109 p c ⟨l.toArray⟩ w).mono fun _ _ ⟨h1, h2⟩ => ⟨h1, h2.symm⟩
  · obtain ⟨b, off, rfl, -, -⟩ := hC 0 (by omega)
    have h := Any.slices_Index_string lays109 b off n c (namesZ g 0 n) ⟨l.toArray⟩ w (by rw [namesZ_length]; exact Nat.le_refl _) (by omega) (fun j hj => by
      rw [namesZ_length] at hj
      rw [hC.cell j (by omega), namesZ_getD g n j hj]
      rfl)
    refine h.mono fun _ _ ⟨h1, h2⟩ => ⟨h1.trans ?_, h2.symm⟩
    rw [List.take_of_length_le (by rw [namesZ_length]; exact Nat.le_refl _)]
    unfold Lib.idxOfS
    rw [idx_is]
theorem which_any (l : List UInt8) (p : Option Addr) (n c : Nat) (hn : n < 1000000) (g : Nat → List UInt8) (w : World) (hC : CellsIn w p (n * 1) (strC g)) :
    Calls Tryd.prog 20 #[.string ⟨l.toArray⟩, .slice p n c] w fun e w' => e = .returned (whichV l g n) ∧ Below w.heap.size w w' := by
  unfold whichV
  have HC := Lib.hid hC
  have H := fun W (h : CellsIn W p (n * 1) (strC g)) => six_any l p n c hn g W h
  clear hC
  cases hr : whichF l g 0 n with
  | none =>
    rw [hr] at H
    have H := Lib.hid H
    clear hr
    go_enter Tryd.func20, Tryd.ntmps20
    go_wp2_with fail
    refine (H.out _ HC.out).mono ?_
    rintro e w' ⟨rfl, rfl⟩
    rw [show whichI none = -1 from rfl]
    go_wp2_with fail
    go_ret2
    exact ⟨rfl, Below.refl _ _⟩
  | some k =>
    rw [hr] at H
    have H := Lib.hid H
    clear hr
    go_enter Tryd.func20, Tryd.ntmps20
    go_wp2_with fail
    refine (H.out _ HC.out).mono ?_
    rintro e w' ⟨rfl, rfl⟩
    rw [show whichI (some k) = (k : Int) from rfl]
    go_wp2_with fail
    go_ret2
    exact ⟨rfl, Below.refl _ _⟩
end Go.Proofs.YtacceiloggnekaaDoor
