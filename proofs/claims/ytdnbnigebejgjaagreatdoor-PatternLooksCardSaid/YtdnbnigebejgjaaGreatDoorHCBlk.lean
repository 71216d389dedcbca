/-
  A block of memory that holds the cells of one struct, of any type: reading, storing, keeping. No condition.
-/
import Derived.Test.YtdnbnigebejgjaaGreatDoorProg
import Derived.WalkKit
import Derived.WalkSpells
import Derived.WalkLawsBesides
import Derived.Handy
import Derived.OneCell
import Derived.Below
namespace Go.Proofs.YtdnbnigebejgjaaGreatDoor
open Go.RowKit
/-- Block B holds the cells cs of type t. -/
def CBlk (t : TypeId) (w : World) (B : Nat) (cs : List Value) : Prop := w.heap[B]? = some (.cells cs.toArray t (0, 0))
theorem CBlk.lt {t : TypeId} {w : World} {B : Nat} {cs : List Value} (h : CBlk t w B cs) : B < w.heap.size := lt_of_block h
theorem CBlk.cell {t : TypeId} {w : World} {B : Nat} {cs : List Value} (h : CBlk t w B cs) (i : Nat) (hi : i < cs.length) : w.cell? ⟨B, i, none⟩ = some cs[i] := by
  unfold CBlk at h
  simp [World.cell?, h, hi]
theorem CBlk.free {t : TypeId} {w : World} {B : Nat} {cs : List Value} (h : CBlk t w B cs) (i : Nat) : w.frozen? ⟨B, i, none⟩ = false := by
  unfold CBlk at h
  simp [World.frozen?, h]
theorem CBlk.new (t : TypeId) (w : World) (cs : List Value) : CBlk t (w.alloc (.cells cs.toArray t)) w.heap.size cs := heap_alloc_new w _
theorem CBlk.alloc {t : TypeId} {w : World} {B : Nat} {cs : List Value} (h : CBlk t w B cs) (o : Obj) : CBlk t (w.alloc o) B cs := (Below.heap_alloc _ _ _ h.lt).trans h
theorem CBlk.drew {t : TypeId} {w : World} {B : Nat} {cs : List Value} (h : CBlk t w B cs) : CBlk t w.drew B cs := h
theorem CBlk.kept {t : TypeId} {W W' : World} {row : Option Nat} {B : Nat} {cs : List Value} (h : CBlk t W B cs) (hg : W.grownBy W' row) (hne : some B ≠ row) : CBlk t W' B cs := (hg.block B h.lt hne).trans h
theorem CBlk.below {t : TypeId} {w w' : World} {B n : Nat} {cs : List Value} (h : CBlk t w B cs) (hb : Below n w w') (hn : B < n) : CBlk t w' B cs := (hb.block B hn).trans h
theorem CBlk.not_row {u : TypeId} {W : World} {B : Nat} {t : TypeId} {cs : List Value} (h : CBlk u W B cs) (hte : u ≠ t) {base size k : Nat} {v : Value} {xs : List Value} (hr : W.ownsRow base t size v k xs) : some B ≠ v.ownBlock := by
  rcases hr.2 with ⟨rfl, _⟩ | ⟨g, cap, cur, rfl, _, hgb, _⟩
  · simp [Value.ownBlock]
  · intro e'
    obtain rfl : B = g := by simpa [Value.ownBlock] using e'
    have := (show W.heap[B]? = _ from h).symm.trans hgb
    simp at this
    exact hte this.2
theorem CBlk.set {t : TypeId} {w : World} {B : Nat} {cs : List Value} (h : CBlk t w B cs) (i : Nat) (v : Value) : CBlk t (w.setCell ⟨B, i, none⟩ v) B (cs.set i v) := by
  have hlt := h.lt
  unfold CBlk at h ⊢
  have h' : w.heap[B] = .cells cs.toArray t (0, 0) := by simpa [Array.getElem?_eq_getElem hlt] using h
  show (w.heap.modify B _)[B]? = _
  rw [Array.getElem?_eq_getElem (by simpa using hlt), Array.getElem_modify_self, h']
  simp
theorem CBlk.other {t : TypeId} {w : World} {B : Nat} {cs : List Value} (h : CBlk t w B cs) (p : Addr) (hp : p.block ≠ B) (v : Value) : CBlk t (w.setCell p v) B cs := by
  unfold CBlk at h ⊢
  rw [Below.heap_setCell _ _ _ _ (fun e => hp e.symm)]; exact h
end Go.Proofs.YtdnbnigebejgjaaGreatDoor
