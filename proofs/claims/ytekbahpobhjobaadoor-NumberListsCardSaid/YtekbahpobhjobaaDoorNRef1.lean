/-
  The reference's value, Digit, Prefix and read for every text and limits.
-/
import Derived.Test.YtekbahpobhjobaaDoorNFacts
namespace Go.Proofs.YtekbahpobhjobaaDoor
open Go.RowKit
theorem ba_get (l : List UInt8) (i : Nat) (h : i < (ByteArray.mk l.toArray).size) : (ByteArray.mk l.toArray)[i]'h = l[i]'h := rfl
attribute [local go_sem] ba_get
set_option maxHeartbeats 1000000 in
theorem value_any (n : Nat) (hn : n < 256) (hex : Bool) (w : World) :
    Calls Tryd.prog 35 #[.int .u8 (n : Int), .bool hex] w fun e w' => e = .returned (.int .i64 (valN hex n)) ∧ w = w' := by
  have h : (48 ≤ n ∧ n ≤ 57) ∨ (97 ≤ n ∧ n ≤ 102) ∨ (65 ≤ n ∧ n ≤ 70) ∨ n < 48 ∨ (57 < n ∧ n < 65) ∨ (70 < n ∧ n < 97) ∨ 102 < n := by omega
  obtain ⟨v, hv⟩ : ∃ v, valN hex n = v := ⟨_, rfl⟩
  rw [hv]
  cases hex
  all_goals
    rcases h with h | h | h | h | h | h | h
    all_goals
      unfold valN at hv
      first
        | (rw [if_pos (by omega)] at hv)
        | (rw [if_neg (by omega), if_pos ⟨rfl, by omega⟩] at hv)
        | (rw [if_neg (by omega), if_neg (fun h => by have := h.2; omega), if_pos ⟨rfl, by omega⟩] at hv)
        | (rw [if_neg (by omega), if_neg (fun h => by have := h.2; omega), if_neg (fun h => by have := h.2; omega)] at hv)
        | (rw [if_neg (by omega), if_neg (by simp), if_neg (by simp)] at hv)
      have HV2 := Lib.hid hv
      clear hv
      first | have a3 : decide ((48 : Int) ≤ (n : Int)) = true := decide_eq_true (by omega) | have a3 : decide ((48 : Int) ≤ (n : Int)) = false := decide_eq_false (by omega)
      first | have a4 : decide ((n : Int) ≤ 57) = true := decide_eq_true (by omega) | have a4 : decide ((n : Int) ≤ 57) = false := decide_eq_false (by omega)
      first | have a1 : decide ((97 : Int) ≤ (n : Int)) = true := decide_eq_true (by omega) | have a1 : decide ((97 : Int) ≤ (n : Int)) = false := decide_eq_false (by omega)
      first | have a2 : decide ((n : Int) ≤ 102) = true := decide_eq_true (by omega) | have a2 : decide ((n : Int) ≤ 102) = false := decide_eq_false (by omega)
      first | have a5 : decide ((65 : Int) ≤ (n : Int)) = true := decide_eq_true (by omega) | have a5 : decide ((65 : Int) ≤ (n : Int)) = false := decide_eq_false (by omega)
      first | have a6 : decide ((n : Int) ≤ 70) = true := decide_eq_true (by omega) | have a6 : decide ((n : Int) ≤ 70) = false := decide_eq_false (by omega)
      go_enter Tryd.func35, Tryd.ntmps35
      go_wp2_with fail
      go_ret
      refine ⟨?_, rfl⟩
      rw [← HV2.out]
      first
        | rfl
        | (show Ending.returned (.int .i64 ((n : Int) - 97 + 10)) = .returned (.int .i64 ((n : Int) - 87)); rw [show (n : Int) - 97 + 10 = (n : Int) - 87 by omega])
        | (show Ending.returned (.int .i64 ((n : Int) - 65 + 10)) = .returned (.int .i64 ((n : Int) - 55)); rw [show (n : Int) - 65 + 10 = (n : Int) - 55 by omega])
/-- What Digit answers. -/
def digitV (hex : Bool) (n : Nat) : Value := if valN hex n < 0 then .tuple #[.int .i64 0, .int .i64 3] else .tuple #[.int .i64 (valN hex n), .int .i64 0]
set_option maxHeartbeats 1000000 in
theorem refDigit_any (n : Nat) (hn : n < 256) (hex : Bool) (w : World) :
    Calls Tryd.prog 21 #[.int .u8 (n : Int), .bool hex] w fun e w' => e = .returned (digitV hex n) ∧ w = w' := by
  obtain ⟨v, hv⟩ : ∃ v, valN hex n = v := ⟨_, rfl⟩
  by_cases h : v < 0
  · have HR : Hid (digitV hex n = .tuple #[.int .i64 0, .int .i64 3]) := Lib.hid (by unfold digitV; rw [hv, if_pos h])
    have HV := Lib.hid hv
    clear hv
    have d1 : decide (v < 0) = true := decide_eq_true h
    go_enter Tryd.func21, Tryd.ntmps21
    go_wp2_with fail
    refine (value_any n hn hex _).mono ?_
    rintro e w' ⟨rfl, rfl⟩
    rw [HV.out]
    go_wp2_with fail
    go_ret2
    exact ⟨by rw [HR.out]; rfl, rfl⟩
  · have HR : Hid (digitV hex n = .tuple #[.int .i64 v, .int .i64 0]) := Lib.hid (by unfold digitV; rw [hv, if_neg h])
    have HV := Lib.hid hv
    clear hv
    have d1 : decide (v < 0) = false := decide_eq_false h
    go_enter Tryd.func21, Tryd.ntmps21
    go_wp2_with fail
    refine (value_any n hn hex _).mono ?_
    rintro e w' ⟨rfl, rfl⟩
    rw [HV.out]
    go_wp2_with fail
    go_ret2
    exact ⟨by rw [HR.out]; rfl, rfl⟩
set_option maxHeartbeats 1000000 in
theorem refPrefix_any (l : List UInt8) (hl : l.length < 1000000) (hex : Bool) (w : World) :
    Calls Tryd.prog 26 #[.string ⟨l.toArray⟩, .bool hex] w fun e w' => e = .returned (.int .i64 (prefF hex l : Nat)) ∧ w = w' := by
  obtain ⟨R, hR⟩ : ∃ R, prefF hex l = R := ⟨_, rfl⟩
  rw [hR]
  go_enter Tryd.func26, Tryd.ntmps26
  go_wp2_with fail
  go_loopw [5] (fun i wr => ∃ k : Nat, k ≤ l.length ∧ i = .int .i64 k ∧ Hid (k + prefF hex (l.drop k) = R) ∧ wr = w) (fun i _ => l.length - (intOf i).toNat)
  case atStart => exact ⟨0, Nat.zero_le _, rfl, Lib.hid (by rw [List.drop_zero, hR, Nat.zero_add]), rfl⟩
  case round =>
    obtain ⟨k, hk, rfl, hp, rfl⟩ := hrel
    by_cases hlt : k < l.length
    · have h1 : decide ((k : Int) < (l.length : Int)) = true := decide_eq_true (by omega)
      have hb2 : (k : Int) < (l.length : Int) := by omega
      have hat := prefF_at (hex := hex) hlt
      cases hd : isD hex l[k]
      · have hv := Lib.hid (valN_no hd)
        rw [hd] at hat
        have hres : Hid (R = k) := Lib.hid (by rw [← hp.out, hat]; rfl)
        clear hat hd
        obtain ⟨y, hy⟩ : ∃ y, (l[k]).toNat = y := ⟨_, rfl⟩
        have hy2 : y < 256 := by rw [← hy]; exact UInt8.toNat_lt _
        rw [hy] at hv
        go_wp2_with fail
        refine (value_any y hy2 hex _).mono ?_
        rintro e w' ⟨rfl, rfl⟩
        rw [hv.out]
        go_wp2_with fail
        go_ret
        exact ⟨by rw [hres.out]; rfl, rfl⟩
      · have hv := Lib.hid (valN_yes hd)
        rw [hd] at hat
        have hnext : Hid (k + 1 + prefF hex (l.drop (k + 1)) = R) := Lib.hid (by rw [← hp.out, hat]; simp; omega)
        clear hat hd
        obtain ⟨v, hv2⟩ : ∃ v, digN hex l[k] = v := ⟨_, rfl⟩
        rw [hv2] at hv
        clear hv2
        obtain ⟨y, hy⟩ : ∃ y, (l[k]).toNat = y := ⟨_, rfl⟩
        have hy2 : y < 256 := by rw [← hy]; exact UInt8.toNat_lt _
        rw [hy] at hv
        have d1 : decide ((0 : Int) ≤ (v : Int)) = true := decide_eq_true (by omega)
        go_wp2_with fail
        refine (value_any y hy2 hex _).mono ?_
        rintro e w' ⟨rfl, rfl⟩
        rw [hv.out]
        go_wp2_with fail
        go_roundw
        case rel => exact ⟨k + 1, by omega, by go_num, hnext, by simp⟩
        case measure => simp [intOf]; omega
    · have h1 : decide ((k : Int) < (l.length : Int)) = false := decide_eq_false (by omega)
      have hres : Hid (R = k) := Lib.hid (by rw [← hp.out, List.drop_eq_nil_of_le (by omega)]; rfl)
      go_wp2_with fail
      go_ret
      exact ⟨by rw [hres.out]; rfl, rfl⟩
end Go.Proofs.YtekbahpobhjobaaDoor
