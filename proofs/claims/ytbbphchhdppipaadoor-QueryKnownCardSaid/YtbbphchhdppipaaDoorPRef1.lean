/-
  The reference's value, escape and step for every byte and every place in a text.
-/
import Derived.Test.YtbbphchhdppipaaDoorPFacts
import Derived.Test.YtbbphchhdppipaaDoorBlk
import Derived.BigQuiet
import Derived.Deep.QuietTactic
import Derived.Deep.RegionHeld3
import Derived.Deep.DeepCutAuto
namespace Go.Proofs.YtbbphchhdppipaaDoor
open Go.RowKit
attribute [local go_sem] ba_get
set_option maxHeartbeats 1000000 in
theorem value_any (n : Nat) (hn : n < 256) (w : World) :
    Calls Tryd.prog 71 #[.int .u8 (n : Int)] w fun e w' => e = .returned (.int .i64 (valI n)) ∧ w = w' := by
  have hp : ∀ b, valI n = b → Hid (valI n = b) := fun _ h => h
  have h : (97 ≤ n ∧ n ≤ 102) ∨ (65 ≤ n ∧ n ≤ 70) ∨ (48 ≤ n ∧ n ≤ 57) ∨ n < 48 ∨ (57 < n ∧ n < 65) ∨ (70 < n ∧ n < 97) ∨ 102 < n := by omega
  rcases h with h | h | h | h | h | h | h
  all_goals
    first
      | have HP := hp ((n - 48 : Nat) : Int) (by unfold valI; rw [show hexP n = (n - 48, true) by unfold hexP; rw [if_pos (by omega)]]; rfl)
      | have HP := hp ((n - 55 : Nat) : Int) (by unfold valI; rw [show hexP n = (n - 55, true) by unfold hexP; rw [if_neg (by omega), if_pos (by omega)]]; rfl)
      | have HP := hp ((n - 87 : Nat) : Int) (by unfold valI; rw [show hexP n = (n - 87, true) by unfold hexP; rw [if_neg (by omega), if_neg (by omega), if_pos (by omega)]]; rfl)
      | have HP := hp (-1) (by unfold valI; rw [show hexP n = (0, false) by unfold hexP; rw [if_neg (by omega), if_neg (by omega), if_neg (by omega)]]; rfl)
    clear hp
    first | have a1 : decide ((97 : Int) ≤ (n : Int)) = true := decide_eq_true (by omega) | have a1 : decide ((97 : Int) ≤ (n : Int)) = false := decide_eq_false (by omega)
    first | have a2 : decide ((n : Int) ≤ 102) = true := decide_eq_true (by omega) | have a2 : decide ((n : Int) ≤ 102) = false := decide_eq_false (by omega)
    first | have a3 : decide ((65 : Int) ≤ (n : Int)) = true := decide_eq_true (by omega) | have a3 : decide ((65 : Int) ≤ (n : Int)) = false := decide_eq_false (by omega)
    first | have a4 : decide ((n : Int) ≤ 70) = true := decide_eq_true (by omega) | have a4 : decide ((n : Int) ≤ 70) = false := decide_eq_false (by omega)
    first | have a5 : decide ((48 : Int) ≤ (n : Int)) = true := decide_eq_true (by omega) | have a5 : decide ((48 : Int) ≤ (n : Int)) = false := decide_eq_false (by omega)
    first | have a6 : decide ((n : Int) ≤ 57) = true := decide_eq_true (by omega) | have a6 : decide ((n : Int) ≤ 57) = false := decide_eq_false (by omega)
    go_enter Tryd.func71, Tryd.ntmps71
    go_wp2_with fail
    go_ret
    refine ⟨?_, rfl⟩
    rw [HP.out]
    first | rfl | (simp; omega)
set_option maxHeartbeats 2000000 in
theorem escape_any (l : List UInt8) (hl : l.length < 1000000) (k : Nat) (hk : k < l.length) (w : World) :
    Calls Tryd.prog 70 #[.string ⟨l.toArray⟩, .int .i64 (k : Int)] w fun e w' => e = .returned (.bool (escB (l.drop k))) ∧ w = w' := by
  have q2 : IntKind.i64.wrap ((k : Int) + 2) = ((k + 2 : Nat) : Int) := (IntWalk.i64_in _ (by omega)).trans (by omega)
  by_cases h3 : k + 2 < l.length
  · have d1 : decide (((k + 2 : Nat) : Int) < (l.length : Int)) = true := decide_eq_true (by omega)
    have hE := escB_at h3
    have b0 : (k : Int) < (l.length : Int) := by omega
    obtain ⟨y, hy⟩ : ∃ y, (l[k]).toNat = y := ⟨_, rfl⟩
    by_cases hc : y = 37
    · have hk37 : l[k] = 37 := UInt8.toNat_inj.1 (by rw [hy, hc]; rfl)
      subst hc
      rw [hk37] at hE
      have q1 : IntKind.i64.wrap ((k : Int) + 1) = ((k + 1 : Nat) : Int) := (IntWalk.i64_in _ (by omega)).trans (by omega)
      have b1 : ((k + 1 : Nat) : Int) < (l.length : Int) := by omega
      have b2 : ((k + 2 : Nat) : Int) < (l.length : Int) := by omega
      obtain ⟨y1, hy1⟩ : ∃ y, (l[k + 1]).toNat = y := ⟨_, rfl⟩
      obtain ⟨y2, hy2⟩ : ∃ y, (l[k + 2]).toNat = y := ⟨_, rfl⟩
      have l1 : y1 < 256 := by rw [← hy1]; exact UInt8.toNat_lt _
      have l2 : y2 < 256 := by rw [← hy2]; exact UInt8.toNat_lt _
      cases e1 : isHex l[k + 1]
      · have V1 := valI_no e1
        rw [hy1] at V1
        have V1 := Lib.hid V1
        have hE2 : Hid (escB (l.drop k) = false) := Lib.hid (by rw [hE, e1]; simp)
        clear hE e1 hk37
        go_enter Tryd.func70, Tryd.ntmps70
        go_wp2_with fail
        refine (value_any y1 l1 _).mono ?_
        rintro e w' ⟨rfl, rfl⟩
        rw [V1.out]
        go_wp2_with fail
        go_ret
        exact ⟨by rw [hE2.out]; rfl, rfl⟩
      · have V1 := valI_hex e1
        rw [hy1] at V1
        obtain ⟨v1, hv1⟩ : ∃ v, hexB l[k + 1] = v := ⟨_, rfl⟩
        rw [hv1] at V1
        have V1 := Lib.hid V1
        have n1 : decide ((0 : Int) ≤ (v1 : Int)) = true := decide_eq_true (by omega)
        cases e2 : isHex l[k + 2]
        · have V2 := valI_no e2
          rw [hy2] at V2
          have V2 := Lib.hid V2
          have hE2 : Hid (escB (l.drop k) = false) := Lib.hid (by rw [hE, e1, e2]; simp)
          clear hE e1 e2 hk37 hv1
          go_enter Tryd.func70, Tryd.ntmps70
          go_wp2_with fail
          refine (value_any y1 l1 _).mono ?_
          rintro e w' ⟨rfl, rfl⟩
          rw [V1.out]
          go_wp2_with fail
          refine (value_any y2 l2 _).mono ?_
          rintro e w' ⟨rfl, rfl⟩
          rw [V2.out]
          go_wp2_with fail
          go_ret
          exact ⟨by rw [hE2.out]; rfl, rfl⟩
        · have V2 := valI_hex e2
          rw [hy2] at V2
          obtain ⟨v2, hv2⟩ : ∃ v, hexB l[k + 2] = v := ⟨_, rfl⟩
          rw [hv2] at V2
          have V2 := Lib.hid V2
          have n2 : decide ((0 : Int) ≤ (v2 : Int)) = true := decide_eq_true (by omega)
          have hE2 : Hid (escB (l.drop k) = true) := Lib.hid (by rw [hE, e1, e2]; simp)
          clear hE e1 e2 hk37 hv1 hv2
          go_enter Tryd.func70, Tryd.ntmps70
          go_wp2_with fail
          refine (value_any y1 l1 _).mono ?_
          rintro e w' ⟨rfl, rfl⟩
          rw [V1.out]
          go_wp2_with fail
          refine (value_any y2 l2 _).mono ?_
          rintro e w' ⟨rfl, rfl⟩
          rw [V2.out]
          go_wp2_with fail
          go_ret
          exact ⟨by rw [hE2.out]; rfl, rfl⟩
    · have hE2 : Hid (escB (l.drop k) = false) := Lib.hid (by
        have hne : l[k] ≠ 37 := fun e => hc (by rw [← hy, e]; rfl)
        rw [hE]; simp [hne])
      have hc3 : (y == 37) = false := by rw [beq_eq_false_iff_ne]; exact hc
      clear hE
      go_enter Tryd.func70, Tryd.ntmps70
      go_wp2_with fail
      go_ret
      exact ⟨by rw [hE2.out]; rfl, rfl⟩
  · have d1 : decide (((k + 2 : Nat) : Int) < (l.length : Int)) = false := decide_eq_false (by omega)
    have hE := Lib.hid (escB_short (l := l) (k := k) (by omega))
    go_enter Tryd.func70, Tryd.ntmps70
    go_wp2_with fail
    go_ret
    exact ⟨by rw [hE.out]; rfl, rfl⟩
/-- How many bytes what begins here has. -/
def stepB (l : List UInt8) : Nat := if escB l then 3 else 1
set_option maxHeartbeats 1000000 in
theorem step_any (l : List UInt8) (hl : l.length < 1000000) (k : Nat) (hk : k < l.length) (w : World) :
    Calls Tryd.prog 69 #[.string ⟨l.toArray⟩, .int .i64 (k : Int)] w fun e w' => e = .returned (.int .i64 (stepB (l.drop k) : Nat)) ∧ w = w' := by
  cases he : escB (l.drop k)
  · have H := Lib.hid he
    have HS : Hid (stepB (l.drop k) = 1) := Lib.hid (by unfold stepB; rw [he]; rfl)
    clear he
    go_enter Tryd.func69, Tryd.ntmps69
    go_wp2_with fail
    refine (escape_any l hl k hk _).mono ?_
    rintro e w' ⟨rfl, rfl⟩
    rw [H.out]
    go_wp2_with fail
    go_ret
    exact ⟨by rw [HS.out]; rfl, rfl⟩
  · have H := Lib.hid he
    have HS : Hid (stepB (l.drop k) = 3) := Lib.hid (by unfold stepB; rw [he]; rfl)
    clear he
    go_enter Tryd.func69, Tryd.ntmps69
    go_wp2_with fail
    refine (escape_any l hl k hk _).mono ?_
    rintro e w' ⟨rfl, rfl⟩
    rw [H.out]
    go_wp2_with fail
    go_ret
    exact ⟨by rw [HS.out]; rfl, rfl⟩
end Go.Proofs.YtbbphchhdppipaaDoor
