/-
  The law RowWords returns true for every input.
-/
import Derived.Test.YtacceiloggnekaaDoorRHelp
import Derived.Test.YtacceiloggnekaaDoorRWhich
namespace Go.Proofs.YtacceiloggnekaaDoor
open Go.RowKit
set_option maxRecDepth 100000 in
set_option maxHeartbeats 8000000 in
theorem words_law (l : List UInt8) (low high : Int) (p : Option Addr) (n c : Nat) (g : Nat → List UInt8) (w : World) (hT : VT w) (hC : CellsIn w p (n * 1) (strC g)) :
    Calls Tryd.prog 5 #[.string ⟨l.toArray⟩, .int .i64 low, .int .i64 high, .slice p n c] w fun e w' => e = .returned (.bool true) ∧ Below w.heap.size w w' := by
  have HVT := Lib.hid hT
  clear hT
  have HC : Hid (CellsIn w p (n * 1) (strC g)) := hC
  clear hC
  by_cases h1 : 300 < l.length
  · have d1 : decide ((300 : Int) < (l.length : Int)) = true := decide_eq_true (by omega)
    have d1n : decide (300 < l.length) = true := decide_eq_true h1
    go_enter Tryd.func5, Tryd.ntmps5
    go_wp2_with fail
    refine (awake_any _ (VT.below (Hid.out (by with_reducible assumption)) (by repeat' (first | (with_reducible exact Below.refl _ _) | (with_reducible assumption) | (with_reducible exact Hid.out (by with_reducible assumption)) | (with_reducible refine below_one _ ?_) | (with_reducible refine Below.drew ?_))))).mono ?_
    rintro e w1 ⟨rfl, hB⟩
    go_wp2_with fail
    go_ret
    exact ⟨rfl, hB⟩
  · have d1 : decide ((300 : Int) < (l.length : Int)) = false := decide_eq_false (by omega)
    have d1n : decide (300 < l.length) = false := decide_eq_false h1
    by_cases h2 : 20 < n
    · have d2 : decide ((20 : Int) < (n : Int)) = true := decide_eq_true (by omega)
      have d2n : decide (20 < n) = true := decide_eq_true h2
      go_enter Tryd.func5, Tryd.ntmps5
      go_wp2_with fail
      refine (awake_any _ (VT.below (Hid.out (by with_reducible assumption)) (by repeat' (first | (with_reducible exact Below.refl _ _) | (with_reducible assumption) | (with_reducible exact Hid.out (by with_reducible assumption)) | (with_reducible refine below_one _ ?_) | (with_reducible refine Below.drew ?_))))).mono ?_
      rintro e w1 ⟨rfl, hB⟩
      go_wp2_with fail
      go_ret
      exact ⟨rfl, hB⟩
    · have d2 : decide ((20 : Int) < (n : Int)) = false := decide_eq_false (by omega)
      have d2n : decide (20 < n) = false := decide_eq_false h2
      obtain ⟨nv, nx, hN⟩ : ∃ (nv : Int) (nx : Nat), Hid (numV l low high = .tuple #[.int .i64 nv, .int .i64 (nx : Int)]) := ⟨_, _, Lib.hid rfl⟩
      obtain ⟨kv, kx, hK⟩ : ∃ (kv kx : Int), Hid (whichV l g n = .tuple #[.int .i64 kv, .int .i64 kx]) := by
        unfold whichV whichR
        split <;> exact ⟨_, _, Lib.hid rfl⟩
      obtain ⟨bv, hBv⟩ : ∃ bv, Hid (bareV l = bv) := ⟨_, Lib.hid rfl⟩
      obtain ⟨wv, hWv⟩ : ∃ wv, Hid (writeL l = wv) := ⟨_, Lib.hid rfl⟩
      go_enter Tryd.func5, Tryd.ntmps5
      go_wp2_with fail
      go_loopw [9] (fun i wr => ∃ k : Nat, k ≤ n ∧ i = .int .i64 k ∧ w = wr) (fun i _ => n - (intOf i).toNat)
      case atStart => exact ⟨0, Nat.zero_le _, rfl, rfl⟩
      case round =>
      obtain ⟨k, hk, rfl, rfl⟩ := hrel
      by_cases hlt : k < n
      · have d3 : decide ((k : Int) < (n : Int)) = true := decide_eq_true (by omega)
        have hb2 : (k : Int) < (n : Int) := by omega
        obtain ⟨b, off, rfl, hbw, hcell⟩ := HC.out k (by omega)
        unfold strC at hcell
        obtain ⟨x, hx⟩ : ∃ x, g k = x := ⟨_, rfl⟩
        rw [hx] at hcell
        clear hx
        by_cases h3 : 100 < x.length
        · have d4 : decide ((100 : Int) < (x.length : Int)) = true := decide_eq_true (by omega)
          have d4n : decide (100 < x.length) = true := decide_eq_true h3
          go_wp2_with fail
          refine (awake_any _ (VT.below (Hid.out (by with_reducible assumption)) (by repeat' (first | (with_reducible exact Below.refl _ _) | (with_reducible assumption) | (with_reducible exact Hid.out (by with_reducible assumption)) | (with_reducible refine below_one _ ?_) | (with_reducible refine Below.drew ?_))))).mono ?_
          rintro e w1 ⟨rfl, hB⟩
          go_wp2_with fail
          go_ret
          exact ⟨rfl, hB⟩
        · have d4 : decide ((100 : Int) < (x.length : Int)) = false := decide_eq_false (by omega)
          have d4n : decide (100 < x.length) = false := decide_eq_false h3
          go_wp2_with fail
          go_roundw
          case rel => exact ⟨k + 1, by omega, by go_num, trivial⟩
          case measure => simp [intOf]; omega
      · have d3 : decide ((k : Int) < (n : Int)) = false := decide_eq_false (by omega)
        go_wp2_with fail
        refine (number_any l (by omega) low high _ (VT.below (Hid.out (by with_reducible assumption)) (by repeat' (first | (with_reducible exact Below.refl _ _) | (with_reducible assumption) | (with_reducible exact Hid.out (by with_reducible assumption)) | (with_reducible refine below_one _ ?_) | (with_reducible refine Below.drew ?_))))).mono ?_
        rintro e w1 ⟨rfl, hB⟩
        rw [hN.out]
        go_wp2_with fail
        refine (refNumber_any l (by omega) low high _).mono ?_
        rintro e w' ⟨rfl, rfl⟩
        rw [hN.out]
        have hC1 := HC.out.below hB (Nat.le_refl _)
        have HC1 := Lib.hid hC1
        clear hC1
        go_wp2_with fail
        refine (which_any l p n c (by omega) g _ HC1.out).mono ?_
        rintro e w2 ⟨rfl, hb⟩
        rw [hK.out]
        have HC2 := Lib.hid (HC1.out.below hb (Nat.le_refl _))
        have hB := hB.trans (hb.mono hB.size)
        clear hb
        go_wp2_with fail
        refine (refWhich_any l p n c (by omega) g _ HC2.out).mono ?_
        rintro e w' ⟨rfl, rfl⟩
        rw [hK.out]
        go_wp2_with fail
        refine (bare_any l (by omega) _).mono ?_
        rintro e w3 ⟨rfl, hb⟩
        rw [hBv.out]
        have hB := hB.trans (hb.mono hB.size)
        clear hb
        go_wp2_with fail
        refine (refBare_any l (by omega) _).mono ?_
        rintro e w' ⟨rfl, rfl⟩
        rw [hBv.out]
        go_wp2_with fail
        refine (write_any l (by omega) _).mono ?_
        rintro e w4 ⟨rfl, hb⟩
        rw [hWv.out]
        have hB := hB.trans (hb.mono hB.size)
        clear hb
        go_wp2_with fail
        refine (refWrite_any l (by omega) _).mono ?_
        rintro e w5 ⟨rfl, hb⟩
        rw [hWv.out]
        have hB := hB.trans (hb.mono hB.size)
        clear hb
        go_wp2_with fail
        refine (awake_any _ (VT.below (Hid.out (by with_reducible assumption)) (by repeat' (first | (with_reducible exact Below.refl _ _) | (with_reducible assumption) | (with_reducible exact Hid.out (by with_reducible assumption)) | (with_reducible refine below_one _ ?_) | (with_reducible refine Below.drew ?_))))).mono ?_
        rintro e w6 ⟨rfl, hb⟩
        have hB := hB.trans (hb.mono hB.size)
        go_wp2_with fail
        go_ret
        exact ⟨rfl, hB⟩
end Go.Proofs.YtacceiloggnekaaDoor
