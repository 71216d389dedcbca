/-
  The reference's bare, blank, value and Bare for every text.
-/
import Derived.Test.YtacceiloggnekaaDoorRFacts
import Derived.Deep.DeepCutAuto
namespace Go.Proofs.YtacceiloggnekaaDoor
open Go.RowKit
theorem ba_get (l : List UInt8) (i : Nat) (h : i < (ByteArray.mk l.toArray).size) : (ByteArray.mk l.toArray)[i]'h = l[i]'h := rfl
attribute [local go_sem] ba_get
/-- The same for numbers below 256. -/
def bwN (n : Nat) : Bool := decide (32 < n) && decide (n < 127) && n != 34
def blN (n : Nat) : Bool := n == 32 || n == 9
set_option maxHeartbeats 1000000 in
theorem refBare1_any (n : Nat) (hn : n < 256) (w : World) :
    Calls Tryd.prog 40 #[.int .u8 (n : Int)] w fun e w' => e = .returned (.bool (bwN n)) ∧ w = w' := by
  by_cases h1 : 32 < n
  · have a1 : decide ((32 : Int) < (n : Int)) = true := decide_eq_true (by omega)
    by_cases h2 : n < 127
    · have a2 : decide ((n : Int) < 127) = true := decide_eq_true (by omega)
      by_cases h3 : n = 34
      · subst h3
        go_enter Tryd.func40, Tryd.ntmps40
        go_wp2_with fail
        go_ret
        exact ⟨rfl, rfl⟩
      · have a3 : ((n : Int) == 34) = false := by rw [beq_eq_false_iff_ne]; omega
        have a4 : ((n : Int) != 34) = true := by rw [bne_iff_ne]; omega
        have HV : Hid (bwN n = true) := Lib.hid (by unfold bwN; simp [h1, h2, h3])
        go_enter Tryd.func40, Tryd.ntmps40
        go_wp2_with fail
        go_ret
        exact ⟨by rw [HV.out]; rfl, rfl⟩
    · have a2 : decide ((n : Int) < 127) = false := decide_eq_false (by omega)
      have HV : Hid (bwN n = false) := Lib.hid (by unfold bwN; simp [h2])
      go_enter Tryd.func40, Tryd.ntmps40
      go_wp2_with fail
      go_ret
      exact ⟨by rw [HV.out]; rfl, rfl⟩
  · have a1 : decide ((32 : Int) < (n : Int)) = false := decide_eq_false (by omega)
    have HV : Hid (bwN n = false) := Lib.hid (by unfold bwN; simp [h1])
    go_enter Tryd.func40, Tryd.ntmps40
    go_wp2_with fail
    go_ret
    exact ⟨by rw [HV.out]; rfl, rfl⟩
set_option maxHeartbeats 1000000 in
theorem refBlank_any (n : Nat) (hn : n < 256) (w : World) :
    Calls Tryd.prog 47 #[.int .u8 (n : Int)] w fun e w' => e = .returned (.bool (blN n)) ∧ w = w' := by
  by_cases h1 : n = 32
  · subst h1
    go_enter Tryd.func47, Tryd.ntmps47
    go_wp2_with fail
    go_ret
    exact ⟨rfl, rfl⟩
  · have a1 : ((n : Int) == 32) = false := by rw [beq_eq_false_iff_ne]; omega
    by_cases h2 : n = 9
    · subst h2
      go_enter Tryd.func47, Tryd.ntmps47
      go_wp2_with fail
      go_ret
      exact ⟨rfl, rfl⟩
    · have a2 : ((n : Int) == 9) = false := by rw [beq_eq_false_iff_ne]; omega
      have HV : Hid (blN n = false) := Lib.hid (by unfold blN; simp [h1, h2])
      go_enter Tryd.func47, Tryd.ntmps47
      go_wp2_with fail
      go_ret
      exact ⟨by rw [HV.out]; rfl, rfl⟩
set_option maxHeartbeats 1000000 in
theorem refBare_any (l : List UInt8) (hl : l.length < 1000000) (w : World) :
    Calls Tryd.prog 23 #[.string ⟨l.toArray⟩] w fun e w' => e = .returned (.bool (bareV l)) ∧ w = w' := by
  go_enter Tryd.func23, Tryd.ntmps23
  go_wp2_with fail
  obtain ⟨R, hR⟩ : ∃ R, l.all isBw = R := ⟨_, rfl⟩
  have HR := Lib.hid hR
  go_loopw [3] (fun i wr => ∃ k : Nat, k ≤ l.length ∧ i = .int .i64 k ∧ Hid ((l.drop k).all isBw = R) ∧ wr = w) (fun i _ => l.length - (intOf i).toNat)
  case atStart => exact ⟨0, Nat.zero_le _, rfl, Lib.hid (by rw [List.drop_zero, hR]), rfl⟩
  case round =>
    obtain ⟨k, hk, rfl, hp, rfl⟩ := hrel
    clear hR
    by_cases hlt : k < l.length
    · have h1 : decide ((k : Int) < (l.length : Int)) = true := decide_eq_true (by omega)
      have hb2 : (k : Int) < (l.length : Int) := by omega
      have hat := all_drop (p := isBw) hlt
      have hlt2 : (l[k]).toNat < 256 := UInt8.toNat_lt _
      obtain ⟨v, hv⟩ : ∃ v, isBw l[k] = v := ⟨_, rfl⟩
      have hbw : bwN (l[k]).toNat = v := hv
      have HB := Lib.hid hbw
      rw [hv] at hat
      clear hv hbw
      cases v
      · have hres : Hid (R = false) := Lib.hid (by rw [← hp.out, hat]; rfl)
        clear hat
        go_wp2_with fail
        refine (refBare1_any _ hlt2 _).mono ?_
        rintro e w' ⟨rfl, rfl⟩
        rw [HB.out]
        go_wp2_with fail
        go_ret
        exact ⟨by rw [bareV_no (by rw [HR.out, hres.out])]; rfl, rfl⟩
      · have hnext : Hid ((l.drop (k + 1)).all isBw = R) := Lib.hid (by rw [← hp.out, hat]; rfl)
        clear hat
        go_wp2_with fail
        refine (refBare1_any _ hlt2 _).mono ?_
        rintro e w' ⟨rfl, rfl⟩
        rw [HB.out]
        go_wp2_with fail
        go_roundw
        case rel => exact ⟨k + 1, by omega, by go_num, hnext, by simp⟩
        case measure => simp [intOf]; omega
    · have h1 : decide ((k : Int) < (l.length : Int)) = false := decide_eq_false (by omega)
      have hres : Hid (R = true) := Lib.hid (by rw [← hp.out, List.drop_eq_nil_of_le (by omega)]; rfl)
      clear hp
      by_cases h0 : l = []
      · subst h0
        go_wp2_with fail
        go_ret
        exact ⟨rfl, rfl⟩
      · have hlen : 0 < l.length := by
          cases l with
          | nil => exact absurd rfl h0
          | cons c r => simp
        have hne : l.isEmpty = false := by
          cases l with
          | nil => exact absurd rfl h0
          | cons c r => rfl
        have hb2 : (0 : Int) < (l.length : Int) := by omega
        have HV := Lib.hid (bareV_of hlen)
        have HX := Lib.hid (show l.all isBw = true by rw [HR.out, hres.out])
        obtain ⟨y, hy⟩ : ∃ y, (l[0]).toNat = y := ⟨_, rfl⟩
        have HY := Lib.hid hy
        by_cases h35 : y = 35
        · have a3 : ((y : Int) == 35) = true := by rw [beq_iff_eq]; omega
          have a4 : ((y : Int) != 35) = false := by rw [h35]; rfl
          go_wp2_with fail
          go_ret
          exact ⟨by rw [HV.out, HX.out, HY.out, h35]; rfl, rfl⟩
        · have a3 : ((y : Int) == 35) = false := by rw [beq_eq_false_iff_ne]; omega
          have a4 : ((y : Int) != 35) = true := by rw [bne_iff_ne]; omega
          go_wp2_with fail
          go_ret
          exact ⟨by rw [HV.out, HX.out, HY.out, show (y != 35) = true by rw [bne_iff_ne]; exact h35]; rfl, rfl⟩
end Go.Proofs.YtacceiloggnekaaDoor
