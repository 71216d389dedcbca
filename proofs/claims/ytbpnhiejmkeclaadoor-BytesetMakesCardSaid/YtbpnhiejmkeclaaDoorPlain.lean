/-
  byteset.isPlain for every byte, strings.IndexByte for every string and byte.
-/
import Derived.Test.YtbpnhiejmkeclaaDoorBlk
import Derived.Shelf.Strings.Search1
namespace Go.Proofs.YtbpnhiejmkeclaaDoor
open Go.RowKit
theorem sbIndexByte_any (s : ByteArray) (c : Int) (w : World) :
    Calls Tryd.prog 62 #[.string s, .int .u8 c] w fun e w' => e = .returned (.int .i64 (Lib.indexByte s.data.toList c.toNat.toUInt8)) ∧ w = w' := by
  go_enter Tryd.func62, Tryd.ntmps62
  go_wp2
  rw [run_callFunc_extern Tryd.func63 (by kernel_rfl) (by kernel_rfl) (by kernel_rfl) (e := Extern.BytealgIndexByte.indexByte) (by kernel_rfl), Lib.run_indexByteString]
  simp only [Result.andThen]
  rw [Oper.upon_value]
  go_wp2
  go_ret
  exact ⟨rfl, rfl⟩
theorem indexByte_any (s : ByteArray) (c : Int) (w : World) :
    Calls Tryd.prog 60 #[.string s, .int .u8 c] w fun e w' => e = .returned (.int .i64 (Lib.indexByte s.data.toList c.toNat.toUInt8)) ∧ w = w' := by
  go_enter Tryd.func60, Tryd.ntmps60
  go_wp2_with (go_at_call 62; refine (sbIndexByte_any _ _ _).mono ?_; rintro e w' ⟨rfl, rfl⟩)
  go_ret
  exact ⟨rfl, rfl⟩
def marksL : List UInt8 := [33, 35, 36, 37, 38, 39, 42, 43, 44, 46, 47, 58, 59, 60, 61, 62, 63, 64, 95, 96, 123, 124, 125, 126, 40, 41]
/-- Is the byte written as itself? -/
def plainB (n : Nat) : Bool := (97 ≤ n && n ≤ 122) || (65 ≤ n && n ≤ 90) || (48 ≤ n && n ≤ 57) || (decide (0 ≤ Lib.indexByte marksL n.toUInt8))
set_option maxHeartbeats 1000000 in
theorem isPlain_any (n : Int) (h0 : 0 ≤ n) (h1 : n < 256) (w : World) :
    Calls Tryd.prog 57 #[.int .u8 n] w fun e w' => e = .returned (.bool (plainB n.toNat)) ∧ w = w' := by
  obtain ⟨n, rfl⟩ := Int.eq_ofNat_of_zero_le h0
  rw [Int.toNat_natCast]
  have h : (97 ≤ n ∧ n ≤ 122) ∨ (65 ≤ n ∧ n ≤ 90) ∨ (48 ≤ n ∧ n ≤ 57) ∨ n < 48 ∨ (57 < n ∧ n < 65) ∨ (90 < n ∧ n < 97) ∨ 122 < n := by omega
  have hp : ∀ b, plainB n = b → Hid (plainB n = b) := fun _ h => h
  rcases h with h | h | h | h | h | h | h
  · have HP := hp true (by simp [plainB, h]); clear hp
    have a1 : decide ((97 : Int) ≤ (n : Int)) = true := decide_eq_true (by omega)
    have a2 : decide ((n : Int) ≤ 122) = true := decide_eq_true (by omega)
    clear h
    go_enter Tryd.func57, Tryd.ntmps57
    go_wp2
    go_ret
    exact ⟨by rw [HP.out]; rfl, rfl⟩
  · have HP := hp true (by simp [plainB, h]); clear hp
    have a1 : decide ((97 : Int) ≤ (n : Int)) = false := decide_eq_false (by omega)
    have a3 : decide ((65 : Int) ≤ (n : Int)) = true := decide_eq_true (by omega)
    have a4 : decide ((n : Int) ≤ 90) = true := decide_eq_true (by omega)
    clear h
    go_enter Tryd.func57, Tryd.ntmps57
    go_wp2
    go_ret
    exact ⟨by rw [HP.out]; rfl, rfl⟩
  · have HP := hp true (by simp [plainB, h]); clear hp
    have a1 : decide ((97 : Int) ≤ (n : Int)) = false := decide_eq_false (by omega)
    have a3 : decide ((65 : Int) ≤ (n : Int)) = false := decide_eq_false (by omega)
    have a5 : decide ((48 : Int) ≤ (n : Int)) = true := decide_eq_true (by omega)
    have a6 : decide ((n : Int) ≤ 57) = true := decide_eq_true (by omega)
    clear h
    go_enter Tryd.func57, Tryd.ntmps57
    go_wp2
    go_ret
    exact ⟨by rw [HP.out]; rfl, rfl⟩
  all_goals
    clear hp
    have HP : Hid (plainB n = decide (0 ≤ Lib.indexByte marksL n.toUInt8)) := by
      show plainB n = _
      have e1 : ¬ (97 ≤ n ∧ n ≤ 122) := by omega
      have e2 : ¬ (65 ≤ n ∧ n ≤ 90) := by omega
      have e3 : ¬ (48 ≤ n ∧ n ≤ 57) := by omega
      simp [plainB, e1, e2, e3]
    first | have a1 : decide ((97 : Int) ≤ (n : Int)) = true := decide_eq_true (by omega) | have a1 : decide ((97 : Int) ≤ (n : Int)) = false := decide_eq_false (by omega)
    first | have a2 : decide ((n : Int) ≤ 122) = true := decide_eq_true (by omega) | have a2 : decide ((n : Int) ≤ 122) = false := decide_eq_false (by omega)
    first | have a3 : decide ((65 : Int) ≤ (n : Int)) = true := decide_eq_true (by omega) | have a3 : decide ((65 : Int) ≤ (n : Int)) = false := decide_eq_false (by omega)
    first | have a4 : decide ((n : Int) ≤ 90) = true := decide_eq_true (by omega) | have a4 : decide ((n : Int) ≤ 90) = false := decide_eq_false (by omega)
    first | have a5 : decide ((48 : Int) ≤ (n : Int)) = true := decide_eq_true (by omega) | have a5 : decide ((48 : Int) ≤ (n : Int)) = false := decide_eq_false (by omega)
    first | have a6 : decide ((n : Int) ≤ 57) = true := decide_eq_true (by omega) | have a6 : decide ((n : Int) ≤ 57) = false := decide_eq_false (by omega)
    clear h
    go_enter Tryd.func57, Tryd.ntmps57
    go_wp2_with (go_at_call 60; refine (indexByte_any _ _ _).mono ?_; rintro e w' ⟨rfl, rfl⟩)
    go_ret
    exact ⟨by rw [HP.out]; rfl, rfl⟩
end Go.Proofs.YtbpnhiejmkeclaaDoor
