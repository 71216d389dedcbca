/-
  Two sets in a row, and the reference's union of them; a set's block, word by word.
-/
import Derived.Test.YtdnbnigebejgjaaGreatDoorHW1
namespace Go.Proofs.YtdnbnigebejgjaaGreatDoor
open Go.RowKit Go.Shelf
attribute [local go_sem] w_0 w_1 w_2 w_3
theorem sets2 {W : World} {B : Nat} {fr : Nat × Nat} (x0 x1 x2 x3 y0 y1 y2 y3 : BitVec 64) (hk : W.heap[B]? = some (.cells #[.int .u64 x0.toNat, .int .u64 x1.toNat, .int .u64 x2.toNat, .int .u64 x3.toNat, .int .u64 y0.toNat, .int .u64 y1.toNat, .int .u64 y2.toNat, .int .u64 y3.toNat] 41 fr)) :
    SetsAt W B 0 2 (pairF (WSet.mk x0 x1 x2 x3) (WSet.mk y0 y1 y2 y3)) := by
  intro j hj i hi
  rw [cell_of_row _ _ _ _ _ _ hk]
  match j, hj, i, hi with
  | 0, _, 0, _ => rfl
  | 0, _, 1, _ => rfl
  | 0, _, 2, _ => rfl
  | 0, _, 3, _ => rfl
  | 1, _, 0, _ => rfl
  | 1, _, 1, _ => rfl
  | 1, _, 2, _ => rfl
  | 1, _, 3, _ => rfl
theorem refUnion2_at (x0 x1 x2 x3 y0 y1 y2 y3 : BitVec 64) (W : World) (B : Nat) (fr : Nat × Nat) (hk : W.heap[B]? = some (.cells #[.int .u64 x0.toNat, .int .u64 x1.toNat, .int .u64 x2.toNat, .int .u64 x3.toNat, .int .u64 y0.toNat, .int .u64 y1.toNat, .int .u64 y2.toNat, .int .u64 y3.toNat] 41 fr)) :
    Calls Tryz.prog 44 #[.slice (some ⟨B, 0, none⟩) 2 2] W fun e w' => e = .returned ((WSet.mk x0 x1 x2 x3).or (WSet.mk y0 y1 y2 y3)).v ∧ Below W.heap.size W w' := by
  refine (refUnion_any (some ⟨B, 0, none⟩) 2 2 (pairF (WSet.mk x0 x1 x2 x3) (WSet.mk y0 y1 y2 y3)) (by unfold maxLen; omega) _ ?_).mono ?_
  · intro j hj
    exact ⟨B, 0, rfl, lt_of_block hk, fun i hi => sets2 _ _ _ _ _ _ _ _ hk j hj i hi⟩
  · rintro e w' ⟨rfl, hb⟩
    exact ⟨by rw [orTo_pair], hb⟩
theorem Blk.store4 {w : World} {B : Nat} {s0 : WSet} (h : Blk w B s0) (a b c d : BitVec 64) : Blk ((((w.setCell ⟨B, 0, none⟩ (.int .u64 (a.toNat : Int))).setCell ⟨B, 1, none⟩ (.int .u64 (b.toNat : Int))).setCell ⟨B, 2, none⟩ (.int .u64 (c.toNat : Int))).setCell ⟨B, 3, none⟩ (.int .u64 (d.toNat : Int))) B ⟨a, b, c, d⟩ := h.store ⟨a, b, c, d⟩
theorem Blk.below4 {w wr : World} {B n : Nat} (a b c d : BitVec 64) (hB : Below n w wr) (h : n ≤ B) : Below n w ((((wr.setCell ⟨B, 0, none⟩ (.int .u64 (a.toNat : Int))).setCell ⟨B, 1, none⟩ (.int .u64 (b.toNat : Int))).setCell ⟨B, 2, none⟩ (.int .u64 (c.toNat : Int))).setCell ⟨B, 3, none⟩ (.int .u64 (d.toNat : Int))) := Blk.belowStore ⟨a, b, c, d⟩ hB h
theorem Blk.cells4 {w : World} {B : Nat} {a b c d : BitVec 64} (h : Blk w B ⟨a, b, c, d⟩) : w.cell? ⟨B, 0, none⟩ = some (.int .u64 (a.toNat : Int)) ∧ w.cell? ⟨B, 1, none⟩ = some (.int .u64 (b.toNat : Int)) ∧ w.cell? ⟨B, 2, none⟩ = some (.int .u64 (c.toNat : Int)) ∧ w.cell? ⟨B, 3, none⟩ = some (.int .u64 (d.toNat : Int)) := h.cells
theorem refUnion2_h (x0 x1 x2 x3 y0 y1 y2 y3 a b c d : BitVec 64) (h : Hid ((WSet.mk x0 x1 x2 x3).or (WSet.mk y0 y1 y2 y3) = ⟨a, b, c, d⟩)) (W : World) (B : Nat) (fr : Nat × Nat) (hk : W.heap[B]? = some (.cells #[.int .u64 x0.toNat, .int .u64 x1.toNat, .int .u64 x2.toNat, .int .u64 x3.toNat, .int .u64 y0.toNat, .int .u64 y1.toNat, .int .u64 y2.toNat, .int .u64 y3.toNat] 41 fr)) :
    Calls Tryz.prog 44 #[.slice (some ⟨B, 0, none⟩) 2 2] W fun e w' => e = .returned (WSet.mk a b c d).v ∧ Below W.heap.size W w' := by
  have hc := refUnion2_at x0 x1 x2 x3 y0 y1 y2 y3 W B fr hk
  rw [h.out] at hc
  exact hc
end Go.Proofs.YtdnbnigebejgjaaGreatDoor
