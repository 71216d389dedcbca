/-
  waypostkit.Mod for every number and every divisor from 1 on.
-/
import Derived.Test.YtjinedeelkdgiaaDoorProg
import Derived.WalkKit
import Derived.IntWalk
import Derived.Lib.Hide
namespace Go.Proofs.YtjinedeelkdgiaaDoor
open Go.RowKit
/-- What Mod answers. -/
def modI (n m : Int) : Int := if n.tmod m < 0 then n.tmod m + m else n.tmod m
theorem modI_range (n m : Int) (h : 1 ≤ m) : 0 ≤ modI n m ∧ modI n m < m := by
  have h1 := Int.lt_tmod_of_pos n (show 0 < m by omega)
  have h2 := Int.tmod_lt_of_pos n (show 0 < m by omega)
  unfold modI
  split <;> omega
set_option maxHeartbeats 1000000 in
theorem mod_any (n m : Int) (hm : 1 ≤ m) (hm2 : m ≤ 4294967296) (w : World) :
    Calls Tryd.prog 26 #[.int .i64 n, .int .i64 m] w fun e w' => e = .returned (.int .i64 (modI n m)) ∧ w = w' := by
  have t1 := Int.lt_tmod_of_pos n (show 0 < m by omega)
  have t2 := Int.tmod_lt_of_pos n (show 0 < m by omega)
  have d1 : decide (m < 1) = false := decide_eq_false (by omega)
  have d2 : decide (m ≤ 0) = false := decide_eq_false (by omega)
  have d3 : (m == 0) = false := by rw [beq_eq_false_iff_ne]; omega
  have hw : IntKind.i64.wrap (n.tmod m) = n.tmod m := IntWalk.i64_in _ (by omega)
  by_cases h0 : n.tmod m < 0
  · have HR : Hid (modI n m = n.tmod m + m) := Lib.hid (by unfold modI; rw [if_pos h0])
    have d4 : decide (n.tmod m < 0) = true := decide_eq_true h0
    go_enter Tryd.func26, Tryd.ntmps26
    go_wp2_with fail
    go_ret
    exact ⟨by rw [HR.out]; rfl, rfl⟩
  · have HR : Hid (modI n m = n.tmod m) := Lib.hid (by unfold modI; rw [if_neg h0])
    have d4 : decide (n.tmod m < 0) = false := decide_eq_false h0
    go_enter Tryd.func26, Tryd.ntmps26
    go_wp2_with fail
    go_ret
    exact ⟨by rw [HR.out]; rfl, rfl⟩
end Go.Proofs.YtjinedeelkdgiaaDoor
