/-
  What regions that draw their order keep, where their calls only make memory: older sets' cells, blocks as they were made; Union and Common of two sets behind one another in a block. No condition.
-/
import Derived.Test.YtbpnhiejmkeclaaDoorKnown
import Derived.Deep.RegionHeld3
import Derived.Deep.DeepCutAuto
import Derived.Lib.Hide
namespace Go.Proofs.YtbpnhiejmkeclaaDoor
open Go.RowKit
theorem andTo_pair (s t : WSet) : andTo WSet.empty.not (pairF s t) 2 = s.and t := by
  simp [andTo, pairF, WSet.and, WSet.empty, WSet.not]
  simp only [show (18446744073709551615#64) = BitVec.allOnes 64 by decide, BitVec.allOnes_and, and_self]
/-- The block B holds two sets, one behind the other. -/
theorem sets2 {W : World} {B : Nat} {fr : Nat × Nat} (x0 x1 x2 x3 y0 y1 y2 y3 : BitVec 64) (hk : W.heap[B]? = some (.cells #[.int .u64 x0.toNat, .int .u64 x1.toNat, .int .u64 x2.toNat, .int .u64 x3.toNat, .int .u64 y0.toNat, .int .u64 y1.toNat, .int .u64 y2.toNat, .int .u64 y3.toNat] 24 fr)) :
    SetsAt W B 0 2 (pairF (WSet.mk x0 x1 x2 x3) (WSet.mk y0 y1 y2 y3)) := by
  intro j hj i hi
  rw [cell_of_row _ _ _ _ _ _ hk]
  match j, hj, i, hi with
  | 0, _, 0, _ => rfl
  | 0, _, 1, _ => rfl
  | 0, _, 2, _ => rfl
  | 0, _, 3, _ => rfl
  | 1, _, 0, _ => rfl
  | 1, _, 1, _ => rfl
  | 1, _, 2, _ => rfl
  | 1, _, 3, _ => rfl
theorem union2_at (x0 x1 x2 x3 y0 y1 y2 y3 : BitVec 64) (W : World) (B : Nat) (fr : Nat × Nat) (hk : W.heap[B]? = some (.cells #[.int .u64 x0.toNat, .int .u64 x1.toNat, .int .u64 x2.toNat, .int .u64 x3.toNat, .int .u64 y0.toNat, .int .u64 y1.toNat, .int .u64 y2.toNat, .int .u64 y3.toNat] 24 fr)) :
    Calls Tryd.prog 27 #[.slice (some ⟨B, 0, none⟩) 2 2] W fun e w' => e = .returned ((WSet.mk x0 x1 x2 x3).or (WSet.mk y0 y1 y2 y3)).v ∧ Below W.heap.size W w' := by
  refine (union_any B 0 2 2 (pairF (WSet.mk x0 x1 x2 x3) (WSet.mk y0 y1 y2 y3)) (by unfold maxLen; omega) _ (lt_of_block hk) (sets2 _ _ _ _ _ _ _ _ hk)).mono ?_
  rintro e w' ⟨rfl, hb⟩
  exact ⟨by rw [orTo_pair], hb⟩
theorem common2_at (x0 x1 x2 x3 y0 y1 y2 y3 : BitVec 64) (W : World) (B : Nat) (fr : Nat × Nat) (hk : W.heap[B]? = some (.cells #[.int .u64 x0.toNat, .int .u64 x1.toNat, .int .u64 x2.toNat, .int .u64 x3.toNat, .int .u64 y0.toNat, .int .u64 y1.toNat, .int .u64 y2.toNat, .int .u64 y3.toNat] 24 fr)) :
    Calls Tryd.prog 29 #[.slice (some ⟨B, 0, none⟩) 2 2] W fun e w' => e = .returned ((WSet.mk x0 x1 x2 x3).and (WSet.mk y0 y1 y2 y3)).v ∧ Below W.heap.size W w' := by
  refine (common_any B 0 2 2 (pairF (WSet.mk x0 x1 x2 x3) (WSet.mk y0 y1 y2 y3)) (by unfold maxLen; omega) _ (lt_of_block hk) (sets2 _ _ _ _ _ _ _ _ hk)).mono ?_
  rintro e w' ⟨rfl, hb⟩
  exact ⟨by rw [andTo_pair], hb⟩
theorem below_from {N : Nat} {w W wx : World} (hB : Below w.heap.size w W) (hN : W.heap.size = N) (h : Below N W wx) : Below w.heap.size w wx := hB.trans (h.mono (hN ▸ hB.size))
theorem heap_at {wx : World} {B : Nat} {o : Obj} (h : wx.heap.size = B) : (wx.alloc o).heap[B]? = some o := h ▸ heap_alloc_new wx o
theorem heap_up {wx : World} {B : Nat} {o x : Obj} (h : wx.heap[B]? = some x) : (wx.alloc o).heap[B]? = some x := (Below.heap_alloc _ _ _ (Array.getElem?_eq_some_iff.1 h).1).trans h
theorem heap_drew {wx : World} {B : Nat} {x : Obj} (h : wx.heap[B]? = some x) : wx.drew.heap[B]? = some x := h
theorem heap_belowS {wx w' : World} {B : Nat} {x : Obj} (h : wx.heap[B]? = some x) (hb : Below wx.heap.size wx w') : w'.heap[B]? = some x := (hb.block B (Array.getElem?_eq_some_iff.1 h).1).trans h
theorem below_eq {N : Nat} {W wx : World} (hN : W.heap.size = N) (h : Below N W wx) : Below W.heap.size W wx := hN ▸ h
theorem Blk.newS {w : World} {B : Nat} (hB : w.heap.size = B) (s : WSet) : Blk (w.alloc (.cells #[.int .u64 s.a.toNat, .int .u64 s.b.toNat, .int .u64 s.c.toNat, .int .u64 s.d.toNat] 24)) B s := hB ▸ Blk.new w s
theorem Blk.new0S {w : World} {B : Nat} (hB : w.heap.size = B) : Blk (w.alloc (.cells #[.int .u64 0, .int .u64 0, .int .u64 0, .int .u64 0] 24)) B .empty := hB ▸ Blk.new0 w
theorem Blk.storeS {w : World} {B : Nat} {s0 : WSet} (h : Blk w B s0) (s : WSet) : Blk ((((w.setCell ⟨B, 0, none⟩ (.int .u64 (s.a.toNat : Int))).setCell ⟨B, 1, none⟩ (.int .u64 (s.b.toNat : Int))).setCell ⟨B, 2, none⟩ (.int .u64 (s.c.toNat : Int))).setCell ⟨B, 3, none⟩ (.int .u64 (s.d.toNat : Int))) B s := h.store s
theorem bsize {W w1 : World} (hb : Below W.heap.size W w1) : (∀ k, k < W.heap.size → k < w1.heap.size) ∧ (∀ k, k < W.heap.size → k ≠ w1.heap.size) :=
  have h := hb.size
  ⟨fun _ k => Nat.lt_of_lt_of_le k h, fun _ k => Nat.ne_of_lt (Nat.lt_of_lt_of_le k h)⟩
theorem Blk.belowS {wx w' : World} {B : Nat} {s : WSet} (h : Blk wx B s) (hb : Below wx.heap.size wx w') : Blk w' B s := h.below hb h.lt
theorem Blk.allocS {wx : World} {B : Nat} {s : WSet} {o : Obj} (h : Blk wx B s) : Blk (wx.alloc o) B s := h.alloc o
theorem Blk.drewS {wx : World} {B : Nat} {s : WSet} (h : Blk wx B s) : Blk wx.drew B s := h
theorem Below.allocS {N : Nat} {W wx : World} {o : Obj} (hN : W.heap.size = N) (h : Below N W wx) : Below N W (wx.alloc o) := h.alloc (hN ▸ h.size) o
theorem Below.transS {N : Nat} {W wx w' : World} (hN : W.heap.size = N) (h : Below N W wx) (hb : Below wx.heap.size wx w') : Below N W w' := h.trans (hb.mono (hN ▸ h.size))
/-- What a region that only makes memory keeps: the cells of older sets. -/
theorem held5 {N : Nat} {W wx : World} {B C D E F : Nat} {a b c d : BitVec 64} {e f g h : BitVec 64} {n0 n1 n2 n3 : BitVec 64} {m0 m1 m2 m3 : BitVec 64} {o0 o1 o2 o3 : BitVec 64} (hN : W.heap.size = N) (hB : Blk W B ⟨a, b, c, d⟩) (hC : Blk W C ⟨e, f, g, h⟩) (hD : Blk W D ⟨n0, n1, n2, n3⟩) (hE : Blk W E ⟨m0, m1, m2, m3⟩) (hF : Blk W F ⟨o0, o1, o2, o3⟩) (lB : B < W.heap.size) (lC : C < W.heap.size) (lD : D < W.heap.size) (lE : E < W.heap.size) (lF : F < W.heap.size) (hb : Below N W wx) :
    Below N W wx ∧ wx.cell? ⟨B, 0, none⟩ = some (.int .u64 (a.toNat : Int)) ∧ wx.cell? ⟨B, 1, none⟩ = some (.int .u64 (b.toNat : Int)) ∧ wx.cell? ⟨B, 2, none⟩ = some (.int .u64 (c.toNat : Int)) ∧ wx.cell? ⟨B, 3, none⟩ = some (.int .u64 (d.toNat : Int)) ∧ wx.cell? ⟨C, 0, none⟩ = some (.int .u64 (e.toNat : Int)) ∧ wx.cell? ⟨C, 1, none⟩ = some (.int .u64 (f.toNat : Int)) ∧ wx.cell? ⟨C, 2, none⟩ = some (.int .u64 (g.toNat : Int)) ∧ wx.cell? ⟨C, 3, none⟩ = some (.int .u64 (h.toNat : Int)) ∧ wx.cell? ⟨D, 0, none⟩ = some (.int .u64 (n0.toNat : Int)) ∧ wx.cell? ⟨D, 1, none⟩ = some (.int .u64 (n1.toNat : Int)) ∧ wx.cell? ⟨D, 2, none⟩ = some (.int .u64 (n2.toNat : Int)) ∧ wx.cell? ⟨D, 3, none⟩ = some (.int .u64 (n3.toNat : Int)) ∧ wx.cell? ⟨E, 0, none⟩ = some (.int .u64 (m0.toNat : Int)) ∧ wx.cell? ⟨E, 1, none⟩ = some (.int .u64 (m1.toNat : Int)) ∧ wx.cell? ⟨E, 2, none⟩ = some (.int .u64 (m2.toNat : Int)) ∧ wx.cell? ⟨E, 3, none⟩ = some (.int .u64 (m3.toNat : Int)) ∧ wx.cell? ⟨F, 0, none⟩ = some (.int .u64 (o0.toNat : Int)) ∧ wx.cell? ⟨F, 1, none⟩ = some (.int .u64 (o1.toNat : Int)) ∧ wx.cell? ⟨F, 2, none⟩ = some (.int .u64 (o2.toNat : Int)) ∧ wx.cell? ⟨F, 3, none⟩ = some (.int .u64 (o3.toNat : Int)) := by
  have cB := (hB.below hb (hN ▸ lB)).cells
  have cC := (hC.below hb (hN ▸ lC)).cells
  have cD := (hD.below hb (hN ▸ lD)).cells
  have cE := (hE.below hb (hN ▸ lE)).cells
  have cF := (hF.below hb (hN ▸ lF)).cells
  exact ⟨hb, cB.1, cB.2.1, cB.2.2.1, cB.2.2.2, cC.1, cC.2.1, cC.2.2.1, cC.2.2.2, cD.1, cD.2.1, cD.2.2.1, cD.2.2.2, cE.1, cE.2.1, cE.2.2.1, cE.2.2.2, cF.1, cF.2.1, cF.2.2.1, cF.2.2.2⟩
/-- What a region that only makes memory keeps: the cells of older sets. -/
theorem held2 {N : Nat} {W wx : World} {B C : Nat} {a b c d : BitVec 64} {e f g h : BitVec 64} (hN : W.heap.size = N) (hB : Blk W B ⟨a, b, c, d⟩) (hC : Blk W C ⟨e, f, g, h⟩) (lB : B < W.heap.size) (lC : C < W.heap.size) (hb : Below N W wx) :
    Below N W wx ∧ wx.cell? ⟨B, 0, none⟩ = some (.int .u64 (a.toNat : Int)) ∧ wx.cell? ⟨B, 1, none⟩ = some (.int .u64 (b.toNat : Int)) ∧ wx.cell? ⟨B, 2, none⟩ = some (.int .u64 (c.toNat : Int)) ∧ wx.cell? ⟨B, 3, none⟩ = some (.int .u64 (d.toNat : Int)) ∧ wx.cell? ⟨C, 0, none⟩ = some (.int .u64 (e.toNat : Int)) ∧ wx.cell? ⟨C, 1, none⟩ = some (.int .u64 (f.toNat : Int)) ∧ wx.cell? ⟨C, 2, none⟩ = some (.int .u64 (g.toNat : Int)) ∧ wx.cell? ⟨C, 3, none⟩ = some (.int .u64 (h.toNat : Int)) := by
  have cB := (hB.below hb (hN ▸ lB)).cells
  have cC := (hC.below hb (hN ▸ lC)).cells
  exact ⟨hb, cB.1, cB.2.1, cB.2.2.1, cB.2.2.2, cC.1, cC.2.1, cC.2.2.1, cC.2.2.2⟩
end Go.Proofs.YtbpnhiejmkeclaaDoor
