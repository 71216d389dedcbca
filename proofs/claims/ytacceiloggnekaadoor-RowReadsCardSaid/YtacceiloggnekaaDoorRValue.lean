/-
  The reference's value of a hexadecimal digit, for every byte.
-/
import Derived.Test.YtacceiloggnekaaDoorRWrite
namespace Go.Proofs.YtacceiloggnekaaDoor
open Go.RowKit
attribute [local go_sem] ba_get
def lowH (n : Nat) : Nat := if 65 ≤ n ∧ n ≤ 70 then n + 32 else n
def valL (c : Nat) : Int := if 48 ≤ c ∧ c ≤ 57 then (c : Int) - 48 else if 97 ≤ c ∧ c ≤ 102 then (c : Int) - 87 else -1
/-- The value of a hexadecimal digit, -1 if it is none. -/
def valH (n : Nat) : Int := valL (lowH n)
theorem valL_hit : ∀ k, k < 16 → valL (hexC k).toNat = (k : Int) := by decide
theorem hexC_low : ∀ i, i < 10 → (hexC i).toNat = i + 48 := by decide
theorem hexC_high : ∀ i, i < 6 → (hexC (i + 10)).toNat = i + 97 := by decide
theorem valL_miss {c : Nat} (h : ∀ j, j < 16 → (hexC j).toNat ≠ c) : valL c = -1 := by
  unfold valL
  split
  · rename_i h1
    have := hexC_low (c - 48) (by omega)
    exact absurd (by omega) (h (c - 48) (by omega))
  · split
    · rename_i h1 h2
      have := hexC_high (c - 97) (by omega)
      exact absurd (by omega) (h (c - 97 + 10) (by omega))
    · rfl
theorem valH_lt (n : Nat) : -1 ≤ valH n ∧ valH n < 16 := by
  unfold valH valL
  split
  · omega
  · split <;> omega
theorem hexU_at (k : Nat) (_ : k < 16) : ∀ h, (([48, 49, 50, 51, 52, 53, 54, 55, 56, 57, 97, 98, 99, 100, 101, 102] : List UInt8)[k]'h) = hexC k := by
  intro h
  unfold hexC hexU
  rw [List.getElem?_eq_getElem h]
  rfl
set_option maxHeartbeats 2000000 in
theorem value_any (n : Nat) (hn : n < 256) (w : World) :
    Calls Tryd.prog 70 #[.int .u8 (n : Int)] w fun e w' => e = .returned (.int .i64 (valH n)) ∧ w = w' := by
  obtain ⟨c, hc⟩ : ∃ c, lowH n = c := ⟨_, rfl⟩
  have hv : Hid (valH n = valL c) := Lib.hid (by unfold valH; rw [hc])
  have hc2 : c < 256 := by
    rw [← hc]; unfold lowH; split <;> omega
  rw [hv.out]
  have hpar : lowH n = n ∨ (65 ≤ n ∧ n ≤ 70) := by unfold lowH; split <;> omega
  by_cases h : 65 ≤ n ∧ n ≤ 70
  · have a1 : decide ((65 : Int) ≤ (n : Int)) = true := decide_eq_true (by omega)
    have a2 : decide ((n : Int) ≤ 70) = true := decide_eq_true (by omega)
    have e1 : lowH n = n + 32 := by unfold lowH; rw [if_pos h]
    have e2 : (n : Int) - 65 + 97 = (c : Int) := by omega
    have q1 : IntKind.u8.wrap ((n : Int) - 65) = (n : Int) - 65 := by
      rw [show (n : Int) - 65 = ((n - 65 : Nat) : Int) by omega]; exact wrap8 (by omega)
    have q2 : IntKind.u8.wrap (c : Int) = (c : Int) := wrap8 hc2
    clear hpar e1 hc
    go_enter Tryd.func70, Tryd.ntmps70
    go_wp2_with fail
    go_loopw [3] (fun i wr => ∃ k : Nat, k ≤ 16 ∧ i = .int .i64 k ∧ Hid (∀ j, j < k → (hexC j).toNat ≠ c) ∧ wr = w) (fun i _ => 16 - (intOf i).toNat)
    case atStart => exact ⟨0, Nat.zero_le _, rfl, Lib.hid (fun j hj => absurd hj (by omega)), rfl⟩
    case round =>
      obtain ⟨k, hk, rfl, hp, rfl⟩ := hrel
      by_cases hlt : k < 16
      · have h1 : decide ((k : Int) < 16) = true := decide_eq_true (by omega)
        have hb2 : (k : Int) < 16 := by omega
        have hat := hexU_at k hlt
        have hit := Lib.hid (valL_hit k hlt)
        obtain ⟨x, hx⟩ : ∃ x, hexC k = x := ⟨_, rfl⟩
        rw [hx] at hat hit
        obtain ⟨y, hy⟩ : ∃ y, x.toNat = y := ⟨_, rfl⟩
        by_cases he : y = c
        · have b1 : ((y : Int) == (c : Int)) = true := by rw [beq_iff_eq]; omega
          have b2 : (y == c) = true := by rw [beq_iff_eq]; exact he
          have hres : Hid (valL c = (k : Int)) := Lib.hid (by rw [← hit.out, hy, he])
          clear he hx
          go_wp2_with fail
          go_ret
          exact ⟨by rw [hres.out]; rfl, rfl⟩
        · have b1 : ((y : Int) == (c : Int)) = false := by rw [beq_eq_false_iff_ne]; omega
          have b2 : (y == c) = false := by rw [beq_eq_false_iff_ne]; exact he
          have hnext : Hid (∀ j, j < k + 1 → (hexC j).toNat ≠ c) := Lib.hid (fun j hj => by
            by_cases h : j < k
            · exact hp.out j h
            · rw [show j = k by omega, hx, hy]; exact he)
          clear he hx
          go_wp2_with fail
          go_roundw
          case rel => exact ⟨k + 1, by omega, by go_num, hnext, by simp⟩
          case measure => simp [intOf]; omega
      · have h1 : decide ((k : Int) < 16) = false := decide_eq_false (by omega)
        have hres : Hid (valL c = -1) := Lib.hid (valL_miss (fun j hj => hp.out j (by omega)))
        go_wp2_with fail
        go_ret
        exact ⟨by rw [hres.out]; rfl, rfl⟩
  · have e1 : lowH n = n := by unfold lowH; rw [if_neg h]
    obtain rfl : n = c := by omega
    clear hpar e1 hc
    by_cases h65 : 65 ≤ n
    · have a1 : decide ((65 : Int) ≤ (n : Int)) = true := decide_eq_true (by omega)
      have a2 : decide ((n : Int) ≤ 70) = false := decide_eq_false (by omega)
      go_enter Tryd.func70, Tryd.ntmps70
      go_wp2_with fail
      go_loopw [3] (fun i wr => ∃ k : Nat, k ≤ 16 ∧ i = .int .i64 k ∧ Hid (∀ j, j < k → (hexC j).toNat ≠ n) ∧ wr = w) (fun i _ => 16 - (intOf i).toNat)
      case atStart => exact ⟨0, Nat.zero_le _, rfl, Lib.hid (fun j hj => absurd hj (by omega)), rfl⟩
      case round =>
        obtain ⟨k, hk, rfl, hp, rfl⟩ := hrel
        by_cases hlt : k < 16
        · have h1 : decide ((k : Int) < 16) = true := decide_eq_true (by omega)
          have hb2 : (k : Int) < 16 := by omega
          have hat := hexU_at k hlt
          have hit := Lib.hid (valL_hit k hlt)
          obtain ⟨x, hx⟩ : ∃ x, hexC k = x := ⟨_, rfl⟩
          rw [hx] at hat hit
          obtain ⟨y, hy⟩ : ∃ y, x.toNat = y := ⟨_, rfl⟩
          by_cases he : y = n
          · have b1 : ((y : Int) == (n : Int)) = true := by rw [beq_iff_eq]; omega
            have b2 : (y == n) = true := by rw [beq_iff_eq]; exact he
            have hres : Hid (valL n = (k : Int)) := Lib.hid (by rw [← hit.out, hy, he])
            clear he hx
            go_wp2_with fail
            go_ret
            exact ⟨by rw [hres.out]; rfl, rfl⟩
          · have b1 : ((y : Int) == (n : Int)) = false := by rw [beq_eq_false_iff_ne]; omega
            have b2 : (y == n) = false := by rw [beq_eq_false_iff_ne]; exact he
            have hnext : Hid (∀ j, j < k + 1 → (hexC j).toNat ≠ n) := Lib.hid (fun j hj => by
              by_cases h : j < k
              · exact hp.out j h
              · rw [show j = k by omega, hx, hy]; exact he)
            clear he hx
            go_wp2_with fail
            go_roundw
            case rel => exact ⟨k + 1, by omega, by go_num, hnext, by simp⟩
            case measure => simp [intOf]; omega
        · have h1 : decide ((k : Int) < 16) = false := decide_eq_false (by omega)
          have hres : Hid (valL n = -1) := Lib.hid (valL_miss (fun j hj => hp.out j (by omega)))
          go_wp2_with fail
          go_ret
          exact ⟨by rw [hres.out]; rfl, rfl⟩
    · have a1 : decide ((65 : Int) ≤ (n : Int)) = false := decide_eq_false (by omega)
      go_enter Tryd.func70, Tryd.ntmps70
      go_wp2_with fail
      go_loopw [3] (fun i wr => ∃ k : Nat, k ≤ 16 ∧ i = .int .i64 k ∧ Hid (∀ j, j < k → (hexC j).toNat ≠ n) ∧ wr = w) (fun i _ => 16 - (intOf i).toNat)
      case atStart => exact ⟨0, Nat.zero_le _, rfl, Lib.hid (fun j hj => absurd hj (by omega)), rfl⟩
      case round =>
        obtain ⟨k, hk, rfl, hp, rfl⟩ := hrel
        by_cases hlt : k < 16
        · have h1 : decide ((k : Int) < 16) = true := decide_eq_true (by omega)
          have hb2 : (k : Int) < 16 := by omega
          have hat := hexU_at k hlt
          have hit := Lib.hid (valL_hit k hlt)
          obtain ⟨x, hx⟩ : ∃ x, hexC k = x := ⟨_, rfl⟩
          rw [hx] at hat hit
          obtain ⟨y, hy⟩ : ∃ y, x.toNat = y := ⟨_, rfl⟩
          by_cases he : y = n
          · have b1 : ((y : Int) == (n : Int)) = true := by rw [beq_iff_eq]; omega
            have b2 : (y == n) = true := by rw [beq_iff_eq]; exact he
            have hres : Hid (valL n = (k : Int)) := Lib.hid (by rw [← hit.out, hy, he])
            clear he hx
            go_wp2_with fail
            go_ret
            exact ⟨by rw [hres.out]; rfl, rfl⟩
          · have b1 : ((y : Int) == (n : Int)) = false := by rw [beq_eq_false_iff_ne]; omega
            have b2 : (y == n) = false := by rw [beq_eq_false_iff_ne]; exact he
            have hnext : Hid (∀ j, j < k + 1 → (hexC j).toNat ≠ n) := Lib.hid (fun j hj => by
              by_cases h : j < k
              · exact hp.out j h
              · rw [show j = k by omega, hx, hy]; exact he)
            clear he hx
            go_wp2_with fail
            go_roundw
            case rel => exact ⟨k + 1, by omega, by go_num, hnext, by simp⟩
            case measure => simp [intOf]; omega
        · have h1 : decide ((k : Int) < 16) = false := decide_eq_false (by omega)
          have hres : Hid (valL n = -1) := Lib.hid (valL_miss (fun j hj => hp.out j (by omega)))
          go_wp2_with fail
          go_ret
          exact ⟨by rw [hres.out]; rfl, rfl⟩
end Go.Proofs.YtacceiloggnekaaDoor
