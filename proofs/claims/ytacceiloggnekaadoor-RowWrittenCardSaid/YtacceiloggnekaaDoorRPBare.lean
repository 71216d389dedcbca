/-
  The program's isPrinted, isEscaped, isBlank and Bare for every text.
-/
import Derived.Test.YtacceiloggnekaaDoorRRef1
import Derived.Laws.Entries
import Derived.Below
import Derived.Deep.DeepCutAuto
namespace Go.Proofs.YtacceiloggnekaaDoor
open Go.RowKit
attribute [local go_sem] ba_get
def prN (n : Nat) : Bool := decide (32 ≤ n) && decide (n ≤ 126)
def esN (n : Nat) : Bool := n == 34 || n == 92
set_option maxHeartbeats 1000000 in
theorem printed_any (n : Nat) (hn : n < 256) (w : World) :
    Calls Tryd.prog 39 #[.int .u8 (n : Int)] w fun e w' => e = .returned (.bool (prN n)) ∧ w = w' := by
  by_cases h1 : 32 ≤ n
  · have a1 : decide ((32 : Int) ≤ (n : Int)) = true := decide_eq_true (by omega)
    by_cases h2 : n ≤ 126
    · have a2 : decide ((n : Int) ≤ 126) = true := decide_eq_true (by omega)
      have HV : Hid (prN n = true) := Lib.hid (by unfold prN; simp [h1, h2])
      go_enter Tryd.func39, Tryd.ntmps39
      go_wp2_with fail
      go_ret
      exact ⟨by rw [HV.out]; rfl, rfl⟩
    · have a2 : decide ((n : Int) ≤ 126) = false := decide_eq_false (by omega)
      have HV : Hid (prN n = false) := Lib.hid (by unfold prN; simp [h2])
      go_enter Tryd.func39, Tryd.ntmps39
      go_wp2_with fail
      go_ret
      exact ⟨by rw [HV.out]; rfl, rfl⟩
  · have a1 : decide ((32 : Int) ≤ (n : Int)) = false := decide_eq_false (by omega)
    have HV : Hid (prN n = false) := Lib.hid (by unfold prN; simp [h1])
    go_enter Tryd.func39, Tryd.ntmps39
    go_wp2_with fail
    go_ret
    exact ⟨by rw [HV.out]; rfl, rfl⟩
set_option maxHeartbeats 1000000 in
theorem escaped_any (n : Nat) (hn : n < 256) (w : World) :
    Calls Tryd.prog 53 #[.int .u8 (n : Int)] w fun e w' => e = .returned (.bool (esN n)) ∧ w = w' := by
  by_cases h1 : n = 34
  · subst h1
    go_enter Tryd.func53, Tryd.ntmps53
    go_wp2_with fail
    go_ret
    exact ⟨rfl, rfl⟩
  · have a1 : ((n : Int) == 34) = false := by rw [beq_eq_false_iff_ne]; omega
    by_cases h2 : n = 92
    · subst h2
      go_enter Tryd.func53, Tryd.ntmps53
      go_wp2_with fail
      go_ret
      exact ⟨rfl, rfl⟩
    · have a2 : ((n : Int) == 92) = false := by rw [beq_eq_false_iff_ne]; omega
      have HV : Hid (esN n = false) := Lib.hid (by unfold esN; simp [h1, h2])
      go_enter Tryd.func53, Tryd.ntmps53
      go_wp2_with fail
      go_ret
      exact ⟨by rw [HV.out]; rfl, rfl⟩
theorem bw_pr {n : Nat} (h : bwN n = true) : prN n = true ∧ n ≠ 32 ∧ n ≠ 34 := by
  unfold bwN at h
  unfold prN
  simp only [Bool.and_eq_true, decide_eq_true_eq, bne_iff_ne] at h ⊢
  omega
theorem bw_no {n : Nat} (h : bwN n = false) : prN n = false ∨ prN n = true ∧ n = 32 ∨ prN n = true ∧ n = 34 := by
  unfold bwN at h
  unfold prN
  simp only [Bool.and_eq_false_iff, decide_eq_false_iff_not, bne_eq_false_iff_eq, Bool.and_eq_true, decide_eq_true_eq] at h ⊢
  omega
set_option maxHeartbeats 2000000 in
theorem bare_eq (l : List UInt8) (hl : l.length < 1000000) (w : World) :
    Calls Tryd.prog 22 #[.string ⟨l.toArray⟩] w fun e w' => e = .returned (.bool (bareV l)) ∧ w = w' := by
  by_cases h0 : l = []
  · subst h0
    go_enter Tryd.func22, Tryd.ntmps22
    go_wp2_with fail
    go_ret
    exact ⟨rfl, rfl⟩
  · have hlen : 0 < l.length := by
      cases l with
      | nil => exact absurd rfl h0
      | cons c r => simp
    have hne : l.isEmpty = false := by
      cases l with
      | nil => exact absurd rfl h0
      | cons c r => rfl
    have hb0 : (0 : Int) < (l.length : Int) := by omega
    have HV := Lib.hid (bareV_of hlen)
    obtain ⟨y, hy⟩ : ∃ y, (l[0]).toNat = y := ⟨_, rfl⟩
    by_cases h35 : y = 35
    · have a3 : ((y : Int) == 35) = true := by rw [beq_iff_eq]; omega
      have HX : Hid (bareV l = false) := Lib.hid (by rw [HV.out, hy, h35]; rfl)
      clear h0
      go_enter Tryd.func22, Tryd.ntmps22
      go_wp2_with fail
      go_ret
      exact ⟨by rw [HX.out]; rfl, rfl⟩
    · have a3 : ((y : Int) == 35) = false := by rw [beq_eq_false_iff_ne]; omega
      obtain ⟨R, hR⟩ : ∃ R, l.all isBw = R := ⟨_, rfl⟩
      have HX : Hid (bareV l = R) := Lib.hid (by rw [HV.out, hy, hR]; cases R <;> simp [h35])
      have HR := Lib.hid hR
      clear h0 hR
      go_enter Tryd.func22, Tryd.ntmps22
      go_wp2_with fail
      go_loopw [13] (fun i wr => ∃ k : Nat, k ≤ l.length ∧ i = .int .i64 k ∧ Hid ((l.drop k).all isBw = R) ∧ wr = w) (fun i _ => l.length - (intOf i).toNat)
      case atStart => exact ⟨0, Nat.zero_le _, rfl, Lib.hid (by rw [List.drop_zero, HR.out]), rfl⟩
      case round =>
        obtain ⟨k, hk, rfl, hp, rfl⟩ := hrel
        by_cases hlt : k < l.length
        · have h1 : decide ((k : Int) < (l.length : Int)) = true := decide_eq_true (by omega)
          have hb2 : (k : Int) < (l.length : Int) := by omega
          have hat := all_drop (p := isBw) hlt
          have hlt2 : (l[k]).toNat < 256 := UInt8.toNat_lt _
          obtain ⟨z, hz⟩ : ∃ z, (l[k]).toNat = z := ⟨_, rfl⟩
          obtain ⟨v, hv⟩ : ∃ v, isBw l[k] = v := ⟨_, rfl⟩
          have hbw : bwN z = v := by rw [← hz]; exact hv
          rw [hv] at hat
          rw [hz] at hlt2
          clear hv
          cases v
          · have hres : Hid (R = false) := Lib.hid (by rw [← hp.out, hat]; rfl)
            clear hat
            rcases bw_no hbw with hq | ⟨hq, h2⟩ | ⟨hq, h2⟩
            · have HQ := Lib.hid hq
              clear hq hbw
              go_wp2_with fail
              refine (printed_any _ hlt2 _).mono ?_
              rintro e w' ⟨rfl, rfl⟩
              rw [HQ.out]
              go_wp2_with fail
              go_ret
              exact ⟨by rw [HX.out, hres.out]; rfl, rfl⟩
            · have HQ := Lib.hid hq
              subst h2
              clear hq hbw
              go_wp2_with fail
              refine (printed_any _ hlt2 _).mono ?_
              rintro e w' ⟨rfl, rfl⟩
              rw [HQ.out]
              go_wp2_with fail
              go_ret
              exact ⟨by rw [HX.out, hres.out]; rfl, rfl⟩
            · have HQ := Lib.hid hq
              subst h2
              clear hq hbw
              go_wp2_with fail
              refine (printed_any _ hlt2 _).mono ?_
              rintro e w' ⟨rfl, rfl⟩
              rw [HQ.out]
              go_wp2_with fail
              go_ret
              exact ⟨by rw [HX.out, hres.out]; rfl, rfl⟩
          · have hnext : Hid ((l.drop (k + 1)).all isBw = R) := Lib.hid (by rw [← hp.out, hat]; rfl)
            obtain ⟨hq, h2, h3⟩ := bw_pr hbw
            have HQ := Lib.hid hq
            have b1 : ((z : Int) == 32) = false := by rw [beq_eq_false_iff_ne]; omega
            have b2 : ((z : Int) == 34) = false := by rw [beq_eq_false_iff_ne]; omega
            clear hat hq hbw
            go_wp2_with fail
            refine (printed_any _ hlt2 _).mono ?_
            rintro e w' ⟨rfl, rfl⟩
            rw [HQ.out]
            go_wp2_with fail
            go_roundw
            case rel => exact ⟨k + 1, by omega, by go_num, hnext, by simp⟩
            case measure => simp [intOf]; omega
        · have h1 : decide ((k : Int) < (l.length : Int)) = false := decide_eq_false (by omega)
          have hres : Hid (R = true) := Lib.hid (by rw [← hp.out, List.drop_eq_nil_of_le (by omega)]; rfl)
          clear hp
          go_wp2_with fail
          go_ret
          exact ⟨by rw [HX.out, hres.out]; rfl, rfl⟩
theorem bare_any (l : List UInt8) (hl : l.length < 1000000) (w : World) :
    Calls Tryd.prog 22 #[.string ⟨l.toArray⟩] w fun e w' => e = .returned (.bool (bareV l)) ∧ Below w.heap.size w w' :=
  (bare_eq l hl w).mono fun _ _ ⟨h1, h2⟩ => ⟨h1, h2 ▸ Below.refl _ _⟩
end Go.Proofs.YtacceiloggnekaaDoor
