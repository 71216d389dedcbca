/-
  byteset.All for every set and every string that memory holds.
-/
import Derived.Test.YtbpnhiejmkeclaaDoorParses
namespace Go.Proofs.YtbpnhiejmkeclaaDoor
open Go.RowKit
attribute [local go_sem] eq_sets w_0 w_1 w_2 w_3
/-- Are all bytes of the text in s? As byteset.All asks it. -/
def allB (s : WSet) (l : List Nat) : Bool := decide ((s.or (setOf l)) = s)
theorem decide_eq_sets (s t : WSet) : decide (s = t) = ((s.a.toNat : Int) == (t.a.toNat : Int) && ((s.b.toNat : Int) == (t.b.toNat : Int) && ((s.c.toNat : Int) == (t.c.toNat : Int) && ((s.d.toNat : Int) == (t.d.toNat : Int))))) := by
  have key : ∀ x y : BitVec 64, ((x.toNat : Int) == (y.toNat : Int)) = decide (x = y) := by
    intro x y
    rw [Bool.eq_iff_iff]
    simp [BitVec.toNat_eq]
    omega
  rw [key, key, key, key]
  obtain ⟨a, b, c, d⟩ := s
  obtain ⟨e, f, g, h⟩ := t
  simp [Bool.decide_and]
theorem of_bytes3 (s : ByteArray) (hs : s.size ≤ maxLen) (cap : Nat) (w : World) (fr : Nat × Nat) (B : Nat) (hB : w.heap.size = B) :
    Calls Tryd.prog 25 #[.slice (some ⟨B, 0, none⟩) s.size cap] (w.alloc (.cells (bytesRow s cap) 5 fr)).drew.drew fun e w' => e = .returned (setOf (bytesN s)).v ∧ Below w.heap.size w w' := by
  subst hB
  exact (of_bytes s hs cap w.heap.size (w.alloc (.cells (bytesRow s cap) 5 fr)).drew.drew (by simp) fr (heap_alloc_new w _)).mono fun e w' ⟨he, hb⟩ =>
    ⟨he, ((((Below.refl _ w).alloc (Nat.le_refl _) _).drew).drew).trans (hb.mono (by simp))⟩
set_option maxHeartbeats 4000000 in
theorem all_any (a b c d : BitVec 64) (s : ByteArray) (hs : s.size ≤ maxLen) (w : World) :
    Calls Tryd.prog 35 #[.agg #[.int .u64 a.toNat, .int .u64 b.toNat, .int .u64 c.toNat, .int .u64 d.toNat], .string s] w fun e w' => e = .returned (.bool (allB ⟨a, b, c, d⟩ (bytesN s))) ∧ Below w.heap.size w w' := by
  have hcv := fun w => run_bytes_of_string (P := Tryd.prog) w 9 31 5 s Tryd.underlying9 Tryd.underlying31 Tryd.underlying5
  go_enter Tryd.func35, Tryd.ntmps35
  go_wp2_with fail
  have h2 := Blk.new w ⟨a, b, c, d⟩
  obtain ⟨W0, hW0⟩ : ∃ W0, w.alloc (.cells #[.int .u64 a.toNat, .int .u64 b.toNat, .int .u64 c.toNat, .int .u64 d.toNat] 24) = W0 := ⟨_, rfl⟩
  have hB0 : Below w.heap.size w W0 := by rw [← hW0]; exact (Below.refl _ w).alloc (Nat.le_refl _) _
  rw [hW0] at h2 ⊢
  clear hW0
  have hz0 : w.heap.size < W0.heap.size := h2.lt
  obtain ⟨c0, c1, c2, c3⟩ := h2.cells
  go_region_with (first
    | (go_at_call 25; refine (of_bytes3 s hs _ W0 _ _ rfl).mono ?_; rintro e w5 ⟨rfl, hb5⟩; have hz5 : w.heap.size < w5.heap.size := Nat.lt_of_lt_of_le hz0 hb5.size; have b5 : Blk w5 w.heap.size ⟨a, b, c, d⟩ := Blk.below h2 hb5 hz0; obtain ⟨c50, c51, c52, c53⟩ := b5.cells)
    | (go_at_call 27; refine (union2 _ _ _ _ _ _ _ _ _).mono ?_; rintro e w6 ⟨rfl, hb6⟩; have hz6 : w.heap.size < w6.heap.size := Nat.lt_of_lt_of_le hz5 hb6.size; have b6 : Blk w6 w.heap.size ⟨a, b, c, d⟩ := Blk.below b5 hb6 (by omega); obtain ⟨c60, c61, c62, c63⟩ := b6.cells))
  all_goals
    go_wp2
    go_ret
    exact ⟨by rw [allB, decide_eq_sets]; rfl, (hB0.trans (hb5.mono (by omega))).trans (hb6.mono (by omega))⟩
end Go.Proofs.YtbpnhiejmkeclaaDoor
