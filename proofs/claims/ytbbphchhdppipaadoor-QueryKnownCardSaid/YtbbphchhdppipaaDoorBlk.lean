/-
  A block of memory that holds a set of bytes (four words): reading a word, storing a word. No condition.
-/
import Derived.Test.YtbbphchhdppipaaDoorBits
import Derived.WalkSpells
import Derived.WalkLawsBesides
import Derived.Handy
import Derived.OneCell
namespace Go.Proofs.YtbbphchhdppipaaDoor
open Go.RowKit
def WSet.set (s : WSet) (i : Nat) (x : BitVec 64) : WSet := match i with
  | 0 => { s with a := x }
  | 1 => { s with b := x }
  | 2 => { s with c := x }
  | _ => { s with d := x }
/-- Block B of the world holds the set s. -/
def Blk (w : World) (B : Nat) (s : WSet) : Prop := w.heap[B]? = some (.cells #[.int .u64 s.a.toNat, .int .u64 s.b.toNat, .int .u64 s.c.toNat, .int .u64 s.d.toNat] 25 (0, 0))
theorem Blk.lt {w : World} {B : Nat} {s : WSet} (h : Blk w B s) : B < w.heap.size := lt_of_block h
theorem Blk.cell {w : World} {B : Nat} {s : WSet} (h : Blk w B s) (i : Nat) (hi : i < 4) : w.cell? ⟨B, i, none⟩ = some (.int .u64 ((s.w i).toNat : Int)) := by
  unfold Blk at h
  match i, hi with
  | 0, _ => simp [World.cell?, h, WSet.w]
  | 1, _ => simp [World.cell?, h, WSet.w]
  | 2, _ => simp [World.cell?, h, WSet.w]
  | 3, _ => simp [World.cell?, h, WSet.w]
theorem Blk.free {w : World} {B : Nat} {s : WSet} (h : Blk w B s) (i : Nat) : w.frozen? ⟨B, i, none⟩ = false := by
  unfold Blk at h
  simp [World.frozen?, h]
theorem Blk.set {w : World} {B : Nat} {s : WSet} (h : Blk w B s) (i : Nat) (hi : i < 4) (x : BitVec 64) : Blk (w.setCell ⟨B, i, none⟩ (.int .u64 (x.toNat : Int))) B (s.set i x) := by
  have hlt := h.lt
  unfold Blk at h ⊢
  have h' : w.heap[B] = .cells #[.int .u64 s.a.toNat, .int .u64 s.b.toNat, .int .u64 s.c.toNat, .int .u64 s.d.toNat] 25 (0, 0) := by simpa [Array.getElem?_eq_getElem hlt] using h
  show (w.heap.modify B _)[B]? = _
  rw [Array.getElem?_eq_getElem (by simpa using hlt), Array.getElem_modify_self, h']
  match i, hi with
  | 0, _ => rfl
  | 1, _ => rfl
  | 2, _ => rfl
  | 3, _ => rfl
theorem Blk.other {w : World} {B : Nat} {s : WSet} (h : Blk w B s) (p : Addr) (hp : p.block ≠ B) (v : Value) : Blk (w.setCell p v) B s := by
  unfold Blk at h ⊢
  rw [Below.heap_setCell _ _ _ _ (fun e => hp e.symm)]; exact h
theorem Blk.alloc {w : World} {B : Nat} {s : WSet} (h : Blk w B s) (o : Obj) : Blk (w.alloc o) B s := by
  have := h.lt
  unfold Blk at h ⊢
  rw [Below.heap_alloc _ _ _ this]; exact h
theorem Blk.drew {w : World} {B : Nat} {s : WSet} (h : Blk w B s) : Blk w.drew B s := h
theorem Blk.below {w w' : World} {B n : Nat} {s : WSet} (h : Blk w B s) (hb : Below n w w') (hn : B < n) : Blk w' B s := by
  unfold Blk at h ⊢
  rw [hb.block B hn]; exact h
theorem Blk.new (w : World) (s : WSet) : Blk (w.alloc (.cells #[.int .u64 s.a.toNat, .int .u64 s.b.toNat, .int .u64 s.c.toNat, .int .u64 s.d.toNat] 25)) w.heap.size s := by
  unfold Blk; exact heap_alloc_new w _
def WSet.empty : WSet := ⟨0, 0, 0, 0⟩
theorem Blk.new0 (w : World) : Blk (w.alloc (.cells #[.int .u64 0, .int .u64 0, .int .u64 0, .int .u64 0] 25)) w.heap.size .empty := Blk.new w .empty
/-- A byte more. -/
def WSet.add (s : WSet) (n : Nat) : WSet := s.set (n / 64) (s.w (n / 64) ||| 1#64 <<< (n % 64))
theorem one_shl (k : Nat) (hk : k < 64) : IntKind.u64.wrap ((2 : Int) ^ k) = ((1#64 <<< k).toNat : Int) := by
  rw [BitVec.toNat_shiftLeft, Nat.shiftLeft_eq]
  have : 2 ^ k < 2 ^ 64 := Nat.pow_lt_pow_right (by omega) hk
  have e : ((2 : Int) ^ k) = ((2 ^ k : Nat) : Int) := by simp
  rw [e]
  simp only [IntKind.wrap, IntKind.bits, IntKind.signed]
  simp
theorem add_word (s : WSet) (n : Nat) (v : Value) (h : v = .int .u64 (bits .or .u64 ((s.w (n / 64)).toNat : Int) (IntKind.u64.wrap ((2 : Int) ^ (n % 64))))) : v = .int .u64 ((s.w (n / 64) ||| 1#64 <<< (n % 64)).toNat : Int) := by
  rw [h, one_shl _ (by omega), bits_or]
/-- The value of a set: an array of four words. -/
abbrev WSet.v (s : WSet) : Value := .agg #[.int .u64 s.a.toNat, .int .u64 s.b.toNat, .int .u64 s.c.toNat, .int .u64 s.d.toNat]
theorem Blk.store {w : World} {B : Nat} {s0 : WSet} (h : Blk w B s0) (s : WSet) : Blk ((((w.setCell ⟨B, 0, none⟩ (.int .u64 ((s.w 0).toNat : Int))).setCell ⟨B, 1, none⟩ (.int .u64 ((s.w 1).toNat : Int))).setCell ⟨B, 2, none⟩ (.int .u64 ((s.w 2).toNat : Int))).setCell ⟨B, 3, none⟩ (.int .u64 ((s.w 3).toNat : Int))) B s :=
  (((h.set 0 (by omega) (s.w 0)).set 1 (by omega) (s.w 1)).set 2 (by omega) (s.w 2)).set 3 (by omega) (s.w 3)
theorem set_size : (Tryd.prog.info? 25).map (·.size) = some 4 := by kernel_rfl
theorem Blk.results {w : World} {B : Nat} {s : WSet} (hb : Blk w B s) {fn : Func} {p : Tmp} (h : fn.results = #[.cell p 25]) (tmps : Array Value)
    (hp : tmps.getD p undef = .pointer (some ⟨B, 0, none⟩)) : (results fn tmps).run Tryd.prog w = .ok s.v w :=
  results_cell_row h tmps w B _ _ _ _ hp hb Tryd.underlying25 rfl set_size
theorem Blk.belowStore {w wr : World} {B n : Nat} (s : WSet) (hB : Below n w wr) (h : n ≤ B) : Below n w ((((wr.setCell ⟨B, 0, none⟩ (.int .u64 ((s.w 0).toNat : Int))).setCell ⟨B, 1, none⟩ (.int .u64 ((s.w 1).toNat : Int))).setCell ⟨B, 2, none⟩ (.int .u64 ((s.w 2).toNat : Int))).setCell ⟨B, 3, none⟩ (.int .u64 ((s.w 3).toNat : Int))) :=
  (((hB.setCell (p := ⟨B, 0, none⟩) h _).setCell (p := ⟨B, 1, none⟩) h _).setCell (p := ⟨B, 2, none⟩) h _).setCell (p := ⟨B, 3, none⟩) h _
/-- The cells and marks of a block that holds a set, all at once. -/
theorem Blk.cells {w : World} {B : Nat} {s : WSet} (h : Blk w B s) : w.cell? ⟨B, 0, none⟩ = some (.int .u64 ((s.w 0).toNat : Int)) ∧ w.cell? ⟨B, 1, none⟩ = some (.int .u64 ((s.w 1).toNat : Int)) ∧ w.cell? ⟨B, 2, none⟩ = some (.int .u64 ((s.w 2).toNat : Int)) ∧ w.cell? ⟨B, 3, none⟩ = some (.int .u64 ((s.w 3).toNat : Int)) :=
  ⟨h.cell 0 (by omega), h.cell 1 (by omega), h.cell 2 (by omega), h.cell 3 (by omega)⟩
theorem Blk.frees {w : World} {B : Nat} {s : WSet} (h : Blk w B s) : w.frozen? ⟨B, 0, none⟩ = false ∧ w.frozen? ⟨B, 1, none⟩ = false ∧ w.frozen? ⟨B, 2, none⟩ = false ∧ w.frozen? ⟨B, 3, none⟩ = false :=
  ⟨h.free 0, h.free 1, h.free 2, h.free 3⟩
end Go.Proofs.YtbbphchhdppipaaDoor
