/-
  A block of memory that holds the cells of one struct, of any type: reading, storing, keeping. No condition.
  The first cells behind an address. No condition.
  Lists of strings in memory: slices of one's own and read ones; the kit's SameTexts and OwnTexts. No condition.
-/
import Derived.Test.YtjinedeelkdgiaaDoorProg
import Derived.WalkKit
import Derived.WalkSpells
import Derived.WalkLawsBesides
import Derived.Handy
import Derived.OneCell
import Derived.Below
import Derived.Maps.AppendAt
import Derived.Laws.OwnMore
import Derived.Deep.AppendLies
import Derived.Laws.AppendOwnNone
import Derived.Deep.DeepCutAuto
import Derived.Deep.RegionHeld3
import Derived.Deep.QuietTactic
import Derived.BigQuiet
import Derived.Lib.ItoaMem
import Derived.Lib.Hide
import Derived.WalkSmall
namespace Go.Proofs.YtjinedeelkdgiaaDoor
open Go.RowKit
/-- Block B holds the cells cs of type t. -/
def CBlk (t : TypeId) (w : World) (B : Nat) (cs : List Value) : Prop := w.heap[B]? = some (.cells cs.toArray t (0, 0))
theorem CBlk.lt {t : TypeId} {w : World} {B : Nat} {cs : List Value} (h : CBlk t w B cs) : B < w.heap.size := lt_of_block h
theorem CBlk.cell {t : TypeId} {w : World} {B : Nat} {cs : List Value} (h : CBlk t w B cs) (i : Nat) (hi : i < cs.length) : w.cell? ⟨B, i, none⟩ = some cs[i] := by
  unfold CBlk at h
  simp [World.cell?, h, hi]
theorem CBlk.free {t : TypeId} {w : World} {B : Nat} {cs : List Value} (h : CBlk t w B cs) (i : Nat) : w.frozen? ⟨B, i, none⟩ = false := by
  unfold CBlk at h
  simp [World.frozen?, h]
theorem CBlk.new (t : TypeId) (w : World) (cs : List Value) : CBlk t (w.alloc (.cells cs.toArray t)) w.heap.size cs := heap_alloc_new w _
theorem CBlk.alloc {t : TypeId} {w : World} {B : Nat} {cs : List Value} (h : CBlk t w B cs) (o : Obj) : CBlk t (w.alloc o) B cs := (Below.heap_alloc _ _ _ h.lt).trans h
theorem CBlk.drew {t : TypeId} {w : World} {B : Nat} {cs : List Value} (h : CBlk t w B cs) : CBlk t w.drew B cs := h
theorem CBlk.kept {t : TypeId} {W W' : World} {row : Option Nat} {B : Nat} {cs : List Value} (h : CBlk t W B cs) (hg : W.grownBy W' row) (hne : some B ≠ row) : CBlk t W' B cs := (hg.block B h.lt hne).trans h
theorem CBlk.below {t : TypeId} {w w' : World} {B n : Nat} {cs : List Value} (h : CBlk t w B cs) (hb : Below n w w') (hn : B < n) : CBlk t w' B cs := (hb.block B hn).trans h
theorem CBlk.not_row {u : TypeId} {W : World} {B : Nat} {t : TypeId} {cs : List Value} (h : CBlk u W B cs) (hte : u ≠ t) {base size k : Nat} {v : Value} {xs : List Value} (hr : W.ownsRow base t size v k xs) : some B ≠ v.ownBlock := by
  rcases hr.2 with ⟨rfl, _⟩ | ⟨g, cap, cur, rfl, _, hgb, _⟩
  · simp [Value.ownBlock]
  · intro e'
    obtain rfl : B = g := by simpa [Value.ownBlock] using e'
    have := (show W.heap[B]? = _ from h).symm.trans hgb
    simp at this
    exact hte this.2
theorem CBlk.set {t : TypeId} {w : World} {B : Nat} {cs : List Value} (h : CBlk t w B cs) (i : Nat) (v : Value) : CBlk t (w.setCell ⟨B, i, none⟩ v) B (cs.set i v) := by
  have hlt := h.lt
  unfold CBlk at h ⊢
  have h' : w.heap[B] = .cells cs.toArray t (0, 0) := by simpa [Array.getElem?_eq_getElem hlt] using h
  show (w.heap.modify B _)[B]? = _
  rw [Array.getElem?_eq_getElem (by simpa using hlt), Array.getElem_modify_self, h']
  simp
theorem CBlk.other {t : TypeId} {w : World} {B : Nat} {cs : List Value} (h : CBlk t w B cs) (p : Addr) (hp : p.block ≠ B) (v : Value) : CBlk t (w.setCell p v) B cs := by
  unfold CBlk at h ⊢
  rw [Below.heap_setCell _ _ _ _ (fun e => hp e.symm)]; exact h
end Go.Proofs.YtjinedeelkdgiaaDoor
namespace Go.Proofs.YtjinedeelkdgiaaDoor
open Go.RowKit
/-- The first n cells behind p. -/
def CellsIn (w : World) (p : Option Addr) (n : Nat) (C : Nat → Value) : Prop := ∀ j, j < n → ∃ b off : Nat, p = some ⟨b, off, none⟩ ∧ b < w.heap.size ∧ w.cell? ⟨b, off + j, none⟩ = some (C j)
theorem CellsIn.below {n k : Nat} {w w' : World} {p : Option Addr} {C : Nat → Value} (h : CellsIn w p n C) (hb : Below k w w') (hk : w.heap.size ≤ k) : CellsIn w' p n C := fun j hj => by
  obtain ⟨b, off, e, h1, h2⟩ := h j hj
  exact ⟨b, off, e, Nat.lt_of_lt_of_le h1 hb.size, (hb.cell (p := ⟨b, off + j, none⟩) (Nat.lt_of_lt_of_le h1 hk)).trans h2⟩
theorem CellsIn.cell {w : World} {b off n : Nat} {C : Nat → Value} (h : CellsIn w (some ⟨b, off, none⟩) n C) (j : Nat) (hj : j < n) : w.cell? ⟨b, off + j, none⟩ = some (C j) := by
  obtain ⟨b', off', e, h1, h2⟩ := h j hj
  injection e with e
  injection e with e1 e2
  subst e1 e2
  exact h2
def intC (f : Nat → Int) (j : Nat) : Value := .int .i64 (f j)
def strC (f : Nat → List UInt8) (j : Nat) : Value := .string ⟨(f j).toArray⟩
end Go.Proofs.YtjinedeelkdgiaaDoor
namespace Go.Proofs.YtjinedeelkdgiaaDoor
open Go.RowKit
theorem own_belowR {W W' : World} {base : Nat} {e : TypeId} {size n : Nat} {v : Value} {xs : List Value} (h : W.ownsRow base e size v n xs) (hb : Below W.heap.size W W') : W'.ownsRow base e size v n xs :=
  h.kept ⟨hb.os, hb.tape, hb.output, hb.size, fun k hk _ => hb.block k hk⟩ (Decidable.em _)
theorem below_grownR {n : Nat} {w W W' : World} {row : Option Nat} (hB : Below n w W) (hn : n ≤ W.heap.size) (hg : W.grownBy W' row) (hr : ∀ r, row = some r → n ≤ r) : Below n w W' :=
  hB.trans ⟨hg.os, hg.tape, hg.output, hg.size, fun k hk => hg.block k (Nat.lt_of_lt_of_le hk hn) (fun e => by have := hr k e.symm; omega)⟩
theorem own_slice {w : World} {base : Nat} {e : TypeId} {size n : Nat} {v : Value} {xs : List Value} (h : w.ownsRow base e size v n xs) : ∃ p c, v = .slice p n c := by
  rcases h.2 with ⟨rfl, rfl⟩ | ⟨g, cap, cur, rfl, _⟩
  · exact ⟨none, 0, rfl⟩
  · exact ⟨_, cap, rfl⟩
/-- A row of one's own as cells to read. -/
theorem cells_of_own {w : World} {base : Nat} {e : TypeId} {size n : Nat} {v : Value} {xs : List Value} (h : w.ownsRow base e size v n xs) (hl : xs.length = n * size) : ∃ p cap, v = .slice p n cap ∧ CellsIn w p (n * size) (fun j => xs.getD j (.int .i64 0)) := by
  by_cases hn : 0 < n
  · obtain ⟨g, cap, rfl, _, _⟩ := h.form hn
    refine ⟨_, cap, rfl, fun j hj => ⟨g, 0, rfl, (h.lt g rfl).2, ?_⟩⟩
    rw [Nat.zero_add, h.cellAt j hj]
    dsimp only
    rw [List.getD_eq_getElem?_getD, List.getElem?_eq_getElem (by omega : j < xs.length)]
    rfl
  · obtain rfl : n = 0 := by omega
    rcases h.2 with ⟨rfl, _⟩ | ⟨g, cap, cur, rfl, _⟩
    · exact ⟨none, 0, rfl, fun j hj => absurd hj (by simp)⟩
    · exact ⟨_, cap, rfl, fun j hj => absurd hj (by simp)⟩
/-- The slice holds the texts. -/
def StrsAt (w : World) (v : Value) (l : List (List UInt8)) : Prop := ∃ p cap, v = .slice p l.length cap ∧ CellsIn w p (l.length * 1) (strC fun j => l.getD j [])
theorem StrsAt.below {k : Nat} {w w' : World} {v : Value} {l : List (List UInt8)} (h : StrsAt w v l) (hb : Below k w w') (hk : w.heap.size ≤ k) : StrsAt w' v l := by
  obtain ⟨p, cap, h1, h2⟩ := h
  exact ⟨p, cap, h1, h2.below hb hk⟩
theorem StrsAt.nil (w : World) : StrsAt w (.slice none 0 0) [] := ⟨none, 0, rfl, fun j hj => absurd hj (by simp)⟩
def strW (l : List UInt8) : Value := .string ⟨l.toArray⟩
theorem strs_of_own {w : World} {base : Nat} {e : TypeId} {v : Value} {l : List (List UInt8)} (h : w.ownsRow base e 1 v l.length (l.map strW)) : StrsAt w v l := by
  obtain ⟨p, cap, h1, h2⟩ := cells_of_own h (by simp)
  refine ⟨p, cap, h1, fun j hj => ?_⟩
  obtain ⟨b, off, e1, e2, e3⟩ := h2 j hj
  refine ⟨b, off, e1, e2, ?_⟩
  rw [e3]
  have hj' : j < l.length := by omega
  show some ((l.map strW).getD j (.int .i64 0)) = some (.string ⟨(l.getD j []).toArray⟩)
  rw [List.getD_eq_getElem?_getD, List.getD_eq_getElem?_getD, List.getElem?_map, List.getElem?_eq_getElem hj']
  rfl
/-- Text k of the list. -/
theorem str_cell {w w' : World} {p : Option Addr} {l : List (List UInt8)} (h : CellsIn w p (l.length * 1) (strC fun j => l.getD j [])) (hb : Below w.heap.size w w') {k : Nat} (hk : k < l.length) : ∃ b off, p = some ⟨b, off, none⟩ ∧ b < w.heap.size ∧ w'.cell? ⟨b, off + k, none⟩ = some (.string ⟨(l[k]).toArray⟩) := by
  obtain ⟨b, off, e, h1, h2⟩ := h k (by omega)
  refine ⟨b, off, e, h1, ?_⟩
  rw [hb.cell (p := ⟨b, off + k, none⟩) h1, h2]
  unfold strC
  dsimp only
  rw [List.getD_eq_getElem?_getD, List.getElem?_eq_getElem hk]
  rfl
theorem infoS4 : (Tryd.prog.info? 9).map (fun i => (i.zero, i.size, i.bytes)) = some (some (.string ⟨#[]⟩), 1, 16) := by kernel_rfl
theorem below_one {w wx : World} (o : Obj) (h : Below w.heap.size w wx) : Below w.heap.size w (wx.alloc o) := h.alloc h.size o
theorem strs_lit (W : World) (t : TypeId) (l : List (List UInt8)) : StrsAt (W.alloc (.cells (l.map strW).toArray t)) (.slice (some ⟨W.heap.size, 0, none⟩) l.length l.length) l :=
  ⟨_, _, rfl, fun j hj => by
    have hj' : j < l.length := by omega
    refine ⟨W.heap.size, 0, rfl, by simp, ?_⟩
    rw [Nat.zero_add, World.cell?_alloc_new]
    unfold strC
    dsimp only
    rw [List.getD_eq_getElem?_getD, List.getElem?_eq_getElem hj']
    simp [strW, hj']⟩
theorem news_of {w W : World} {p : Addr} {L : List (List UInt8)} (h : CellsIn w (some p) (L.length * 1) (strC fun j => L.getD j [])) (hb : Below w.heap.size w W) (j : Nat) (u : Value) (hu : (L.map strW)[j]? = some u) : W.cell? (p.add j) = some u := by
  have hj : j < L.length := by simpa using (List.getElem?_eq_some_iff.1 hu).1
  obtain ⟨b, off, e, hbl, hc⟩ := str_cell h hb hj
  injection e with e
  subst e
  rw [Lib.add_plain, hc, ← hu, List.getElem?_map, List.getElem?_eq_getElem hj]
  rfl
end Go.Proofs.YtjinedeelkdgiaaDoor
