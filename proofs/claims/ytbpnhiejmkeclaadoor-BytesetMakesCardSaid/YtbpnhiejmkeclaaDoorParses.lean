/-
  The law text's own functions fails and parses, byteset.Ranges of two ranges as Go writes them.
-/
import Derived.Test.YtbpnhiejmkeclaaDoorOf
import Derived.Test.YtbpnhiejmkeclaaDoorEql
namespace Go.Proofs.YtbpnhiejmkeclaaDoor
open Go.RowKit
attribute [local go_sem] eq_sets w_0 w_1 w_2 w_3
set_option maxHeartbeats 1000000 in
theorem fails_any (l : List UInt8) (hl : l.length < 9223372036854775807) (er : Nat) (hp : parseOf l = .error er) (w : World) :
    Calls Tryd.prog 38 #[.string ⟨l.toArray⟩] w fun e w' => e = .returned (.int .i64 er) ∧ Below w.heap.size w w' := by
  have HP := Lib.hid hp
  clear hp
  go_enter Tryd.func38, Tryd.ntmps38
  go_wp2_with fail
  refine (parse_any l hl _).mono ?_
  rintro e w1 ⟨rfl, hb1⟩
  rw [HP.out]
  simp only [parseV]
  go_wp2_with fail
  go_ret
  exact ⟨rfl, hb1.alloc hb1.size _⟩
set_option maxHeartbeats 1000000 in
theorem parses_ok (l : List UInt8) (hl : l.length < 9223372036854775807) (a b c d : BitVec 64) (hp : parseOf l = .ok ⟨a, b, c, d⟩) (w : World) :
    Calls Tryd.prog 39 #[.string ⟨l.toArray⟩, .agg #[.int .u64 a.toNat, .int .u64 b.toNat, .int .u64 c.toNat, .int .u64 d.toNat]] w fun e w' => e = .returned (.bool true) ∧ Below w.heap.size w w' := by
  have HP := Lib.hid hp
  clear hp
  go_enter Tryd.func39, Tryd.ntmps39
  go_wp2_with fail
  refine (parse_any l hl _).mono ?_
  rintro e w1 ⟨rfl, hb1⟩
  rw [HP.out]
  simp only [parseV]
  have a1 : Blk w1 w.heap.size ⟨a, b, c, d⟩ := (Blk.new w ⟨a, b, c, d⟩).below hb1 (by simp)
  have hz1 : w.heap.size < w1.heap.size := a1.lt
  have hB1 : Below w.heap.size w w1 := ((Below.refl _ w).alloc (Nat.le_refl _) _).trans (hb1.mono (by simp))
  obtain ⟨d0, d1, d2, d3⟩ := a1.cells
  clear hb1
  go_wp2_with fail
  go_ret
  exact ⟨rfl, hB1.alloc (by omega) _⟩
def pairN (a b : Nat) : Nat → Nat | 0 => a | _ => b
theorem ranges2 (l0 h0 l1 h1 : Nat) (q0 : l0 ≤ h0) (q1 : l1 ≤ h1) (r0 : h0 < 256) (r1 : h1 < 256) (W : World) :
    Calls Tryd.prog 23 #[.slice (some ⟨W.heap.size, 0, none⟩) 2 2] (W.alloc (.cells #[.int .u8 l0, .int .u8 h0, .int .u8 l1, .int .u8 h1] 42)) fun e w' => e = .returned (.tuple #[(rangesTo (pairN l0 l1) (pairN h0 h1) 2).v, .int .i64 0]) ∧ Below W.heap.size W w' := by
  have hk : (W.alloc (.cells #[.int .u8 l0, .int .u8 h0, .int .u8 l1, .int .u8 h1] 42)).heap[W.heap.size]? = _ := heap_alloc_new W _
  refine (ranges_ok W.heap.size 0 2 2 (pairN l0 l1) (pairN h0 h1) ?_ ?_ (by unfold maxLen; omega) _ (by simp) ?_).mono ?_
  · intro j hj
    match j, hj with
    | 0, _ => exact ⟨by show l0 < 256; omega, r0⟩
    | 1, _ => exact ⟨by show l1 < 256; omega, r1⟩
  · intro j hj
    match j, hj with
    | 0, _ => exact q0
    | 1, _ => exact q1
  · intro j hj
    rw [cell_of_row _ _ _ _ _ _ hk, cell_of_row _ _ _ _ _ _ hk]
    match j, hj with
    | 0, _ => exact ⟨rfl, rfl⟩
    | 1, _ => exact ⟨rfl, rfl⟩
  · rintro e w' ⟨rfl, hb⟩
    exact ⟨rfl, ((Below.refl _ W).alloc (Nat.le_refl _) _).trans (hb.mono (by simp))⟩
theorem ranges2_at (l0 h0 l1 h1 : Nat) (q0 : l0 ≤ h0) (q1 : l1 ≤ h1) (r0 : h0 < 256) (r1 : h1 < 256) (W : World) (B : Nat) (hB : W.heap.size = B) :
    Calls Tryd.prog 23 #[.slice (some ⟨B, 0, none⟩) 2 2] (W.alloc (.cells #[.int .u8 l0, .int .u8 h0, .int .u8 l1, .int .u8 h1] 42)) fun e w' => e = .returned (.tuple #[(rangesTo (pairN l0 l1) (pairN h0 h1) 2).v, .int .i64 0]) ∧ Below W.heap.size W w' := by
  subst hB
  exact ranges2 l0 h0 l1 h1 q0 q1 r0 r1 W
end Go.Proofs.YtbpnhiejmkeclaaDoor
