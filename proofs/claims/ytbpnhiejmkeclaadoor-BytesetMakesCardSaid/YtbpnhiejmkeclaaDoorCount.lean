/-
  math/bits.OnesCount64 for every word, byteset.Count for every set.
-/
import Derived.Test.YtbpnhiejmkeclaaDoorOnes
import Derived.Test.YtbpnhiejmkeclaaDoorSets
import Derived.Laws.Bits64b
import Derived.Lib.Hide
namespace Go.Proofs.YtbpnhiejmkeclaaDoor
open Go.RowKit
theorem and_nat (a b : Nat) (ha : a < 18446744073709551616) (hb : b < 18446744073709551616) : bits .and .u64 (a : Int) (b : Int) = ((a &&& b : Nat) : Int) := by
  have := bits_and (BitVec.ofNat 64 a) (BitVec.ofNat 64 b)
  rw [BitVec.toNat_and, BitVec.toNat_ofNat, BitVec.toNat_ofNat, Nat.mod_eq_of_lt (by omega), Nat.mod_eq_of_lt (by omega)] at this
  exact this
theorem g1 (x M : Nat) (hx : x < 18446744073709551616) (hM : M < 9223372036854775808) : IntKind.u64.wrap (bits .and .u64 ((x : Int) / 2) (M : Int) + bits .and .u64 (x : Int) (M : Int)) = ((f1 M x : Nat) : Int) := by
  have e : (x : Int) / 2 = ((x / 2 : Nat) : Int) := by omega
  have l1 : x / 2 &&& M ≤ M := Nat.and_le_right
  have l2 : x &&& M ≤ M := Nat.and_le_right
  rw [e, and_nat _ _ (by omega) (by omega), and_nat _ _ (by omega) (by omega), IntKind.wrap_u64]
  unfold f1
  omega
theorem g2 (x M : Nat) (hx : x < 18446744073709551616) (hM : M < 9223372036854775808) : IntKind.u64.wrap (bits .and .u64 ((x : Int) / 4) (M : Int) + bits .and .u64 (x : Int) (M : Int)) = ((f2 M x : Nat) : Int) := by
  have e : (x : Int) / 4 = ((x / 4 : Nat) : Int) := by omega
  have l1 : x / 4 &&& M ≤ M := Nat.and_le_right
  have l2 : x &&& M ≤ M := Nat.and_le_right
  rw [e, and_nat _ _ (by omega) (by omega), and_nat _ _ (by omega) (by omega), IntKind.wrap_u64]
  unfold f2
  omega
theorem g3 (x M : Nat) (hx : x < 9223372036854775808) (hM : M < 9223372036854775808) : bits .and .u64 (IntKind.u64.wrap ((x : Int) / 16 + (x : Int))) (M : Int) = ((f3 M x : Nat) : Int) := by
  have e : IntKind.u64.wrap ((x : Int) / 16 + (x : Int)) = ((x / 16 + x : Nat) : Int) := by rw [IntKind.wrap_u64]; omega
  rw [e, and_nat _ _ (by omega) (by omega)]
  rfl
theorem f1_le (M x : Nat) : f1 M x ≤ 2 * M := by
  have l1 : x / 2 &&& M ≤ M := Nat.and_le_right
  have l2 : x &&& M ≤ M := Nat.and_le_right
  unfold f1; omega
theorem f2_le (M x : Nat) : f2 M x ≤ 2 * M := by
  have l1 : x / 4 &&& M ≤ M := Nat.and_le_right
  have l2 : x &&& M ≤ M := Nat.and_le_right
  unfold f2; omega
set_option maxHeartbeats 1000000 in
theorem ones_core (x Y1 Y2 Y3 Z V U p : Int) (w : World)
    (H1 : IntKind.u64.wrap (bits .and .u64 (x / 2) 6148914691236517205 + bits .and .u64 x 6148914691236517205) = Y1)
    (H2 : IntKind.u64.wrap (bits .and .u64 (Y1 / 4) 3689348814741910323 + bits .and .u64 Y1 3689348814741910323) = Y2)
    (H3 : bits .and .u64 (IntKind.u64.wrap (Y2 / 16 + Y2)) 1085102592571150095 = Y3)
    (H4 : IntKind.u64.wrap (Y3 + Y3 / 256) = Z) (H5 : IntKind.u64.wrap (Z + Z / 65536) = V) (H6 : IntKind.u64.wrap (V + V / 4294967296) = U)
    (H7 : bits .and .i64 (wrap64 U) 127 = p) :
    Calls Tryd.prog 42 #[.int .u64 x] w fun e w' => e = .returned (.int .i64 p) ∧ w = w' := by
  go_enter Tryd.func42, Tryd.ntmps42
  go_wp2
  go_ret
  exact ⟨rfl, rfl⟩
theorem and127 (u : Nat) (h : u < 9223372036854775808) : bits .and .i64 (wrap64 (u : Int)) 127 = ((u % 128 : Nat) : Int) := by
  have e : wrap64 (u : Int) = (u : Int) := IntWalk.wrap64_in _ ⟨by omega, by omega⟩
  rw [e]
  show IntKind.i64.wrap ((BitVec.ofInt 64 (u : Int) &&& BitVec.ofInt 64 127).toNat : Int) = _
  rw [BitVec.toNat_and, ofInt_u64 u (by omega)]
  have e2 : (BitVec.ofInt 64 127).toNat = 2 ^ 7 - 1 := rfl
  rw [e2, Nat.and_two_pow_sub_one_eq_mod]
  simp only [IntKind.wrap, IntKind.bits, IntKind.signed]
  simp
  omega
theorem ones_any (x : BitVec 64) (w : World) :
    Calls Tryd.prog 42 #[.int .u64 x.toNat] w fun e w' => e = .returned (.int .i64 (pc x)) ∧ w = w' := by
  have hx := x.isLt
  have hs := (steps 8 x.toNat (by simpa using hx)).2
  obtain ⟨q1, q2, q3⟩ := digit_sum x.toNat
  have e1 : rep 0x55 8 = 6148914691236517205 := by decide
  have e2 : rep 0x33 8 = 3689348814741910323 := by decide
  have e3 : rep 0x0f 8 = 1085102592571150095 := by decide
  rw [e1, e2, e3] at hs
  have b1 := f1_le 6148914691236517205 x.toNat
  have b2 := f2_le 3689348814741910323 (f1 6148914691236517205 x.toNat)
  have H1 := g1 x.toNat 6148914691236517205 (by omega) (by omega)
  have H2 := g2 (f1 6148914691236517205 x.toNat) 3689348814741910323 (by omega) (by omega)
  have H3 := g3 (f2 3689348814741910323 (f1 6148914691236517205 x.toNat)) 1085102592571150095 (by omega) (by omega)
  rw [hs] at H3
  generalize f2 3689348814741910323 (f1 6148914691236517205 x.toNat) = y2 at *
  generalize f1 6148914691236517205 x.toNat = y1 at *
  have q1' : digits 8 x.toNat < 9 * 72057594037927936 * 2 := by simpa using q1
  unfold pc
  generalize digits 8 x.toNat = y3 at *
  refine ones_core _ _ _ _ _ _ _ _ w H1 H2 H3 (by rw [IntKind.wrap_u64, show ((y3 : Int) + (y3 : Int) / 256) % 18446744073709551616 = ((y3 + y3 / 256 : Nat) : Int) by omega]) (by rw [IntKind.wrap_u64, show (((y3 + y3 / 256 : Nat) : Int) + ((y3 + y3 / 256 : Nat) : Int) / 65536) % 18446744073709551616 = ((y3 + y3 / 256 + (y3 + y3 / 256) / 65536 : Nat) : Int) by omega])
    (by rw [IntKind.wrap_u64, show (((y3 + y3 / 256 + (y3 + y3 / 256) / 65536 : Nat) : Int) + ((y3 + y3 / 256 + (y3 + y3 / 256) / 65536 : Nat) : Int) / 4294967296) % 18446744073709551616 = ((y3 + y3 / 256 + (y3 + y3 / 256) / 65536 + (y3 + y3 / 256 + (y3 + y3 / 256) / 65536) / 4294967296 : Nat) : Int) by omega]) ?_
  rw [and127 _ (by omega), q2]
/-- How many bytes are in a set. -/
def countOf (s : WSet) : Nat := pc s.a + pc s.b + pc s.c + pc s.d
theorem pc_le (x : BitVec 64) : pc x ≤ 64 := (digit_sum x.toNat).2.2
set_option maxHeartbeats 1000000 in
theorem count_any (a b c d : BitVec 64) (w : World) :
    Calls Tryd.prog 16 #[.agg #[.int .u64 a.toNat, .int .u64 b.toNat, .int .u64 c.toNat, .int .u64 d.toNat]] w fun e w' => e = .returned (.int .i64 (countOf ⟨a, b, c, d⟩)) ∧ Below w.heap.size w w' := by
  have la := pc_le a
  have lb := pc_le b
  have lc := pc_le c
  have ld := pc_le d
  have i0 : ∀ w, (Instr.index 24 (.agg #[.int .u64 (a.toNat : Int), .int .u64 (b.toNat : Int), .int .u64 (c.toNat : Int), .int .u64 (d.toNat : Int)]) (.int .i64 0)).run Tryd.prog w = .ok (.int .u64 (a.toNat : Int)) w := fun _ => by kernel_rfl
  have i1 : ∀ w, (Instr.index 24 (.agg #[.int .u64 (a.toNat : Int), .int .u64 (b.toNat : Int), .int .u64 (c.toNat : Int), .int .u64 (d.toNat : Int)]) (.int .i64 1)).run Tryd.prog w = .ok (.int .u64 (b.toNat : Int)) w := fun _ => by kernel_rfl
  have i2 : ∀ w, (Instr.index 24 (.agg #[.int .u64 (a.toNat : Int), .int .u64 (b.toNat : Int), .int .u64 (c.toNat : Int), .int .u64 (d.toNat : Int)]) (.int .i64 2)).run Tryd.prog w = .ok (.int .u64 (c.toNat : Int)) w := fun _ => by kernel_rfl
  have i3 : ∀ w, (Instr.index 24 (.agg #[.int .u64 (a.toNat : Int), .int .u64 (b.toNat : Int), .int .u64 (c.toNat : Int), .int .u64 (d.toNat : Int)]) (.int .i64 3)).run Tryd.prog w = .ok (.int .u64 (d.toNat : Int)) w := fun _ => by kernel_rfl
  go_enter Tryd.func16, Tryd.ntmps16
  go_wp2
  refine wp_loop_rounds 5 ?_
  rw [rounds_succ]; go_wp2_with (go_at_call 42; refine (ones_any _ _).mono ?_; rintro e w' ⟨rfl, rfl⟩)
  rw [rounds_succ]; go_wp2_with (go_at_call 42; refine (ones_any _ _).mono ?_; rintro e w' ⟨rfl, rfl⟩)
  rw [rounds_succ]; go_wp2_with (go_at_call 42; refine (ones_any _ _).mono ?_; rintro e w' ⟨rfl, rfl⟩)
  rw [rounds_succ]; go_wp2_with (go_at_call 42; refine (ones_any _ _).mono ?_; rintro e w' ⟨rfl, rfl⟩)
  rw [rounds_succ]; go_wp2
  go_ret
  refine ⟨?_, by go_grown⟩
  unfold countOf
  simp
end Go.Proofs.YtbpnhiejmkeclaaDoor
