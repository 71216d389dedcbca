/-
  Sets of 256 bytes as four words, and what Go's bit operations on words come to, as operations on bit vectors. No condition.
  A block of memory that holds a set of bytes (four words): reading a word, storing a word. No condition.
  A block of memory that holds the cells of one struct, of any type: reading, storing, keeping. No condition.
  Two sets are compared word by word. No condition.
  The first cells behind an address. No condition.
-/
import Derived.Test.YtdnbnigebejgjaaGreatDoorProg
import Derived.WalkKit
import Derived.WalkSpells
import Derived.WalkLawsBesides
import Derived.Handy
import Derived.OneCell
import Derived.Below
namespace Go.Proofs.YtdnbnigebejgjaaGreatDoor
open Go.RowKit
/-- A set of bytes: four words of 64 bits. -/
structure WSet where
  a : BitVec 64
  b : BitVec 64
  c : BitVec 64
  d : BitVec 64
deriving DecidableEq
/-- The words by their numbers. -/
def WSet.w (s : WSet) : Nat → BitVec 64
  | 0 => s.a
  | 1 => s.b
  | 2 => s.c
  | _ => s.d
/-- Is the byte n in s? -/
def WSet.has (s : WSet) (n : Nat) : Bool := (s.w (n / 64)).getLsbD (n % 64)
theorem idx4 (a b c d : BitVec 64) (n : Nat) (hn : n < 4) : [Value.int .u64 (a.toNat : Int), Value.int .u64 (b.toNat : Int), Value.int .u64 (c.toNat : Int), Value.int .u64 (d.toNat : Int)][n]? = some (.int .u64 (((WSet.mk a b c d).w n).toNat : Int)) := by
  match n, hn with
  | 0, _ => rfl
  | 1, _ => rfl
  | 2, _ => rfl
  | 3, _ => rfl
theorem wrap64_toNat (x : BitVec 64) : IntKind.u64.wrap (x.toNat : Int) = (x.toNat : Int) := by
  have := x.isLt
  simp only [IntKind.wrap, IntKind.bits, IntKind.signed]
  simp
  omega
theorem ofInt_toNat (x : BitVec 64) : BitVec.ofInt 64 (x.toNat : Int) = x := by
  rw [BitVec.ofInt_natCast, BitVec.ofNat_toNat, BitVec.setWidth_eq]
theorem bits_and (x y : BitVec 64) : bits .and .u64 (x.toNat : Int) (y.toNat : Int) = ((x &&& y).toNat : Int) := by
  show IntKind.u64.wrap ((BitVec.ofInt 64 (x.toNat : Int) &&& BitVec.ofInt 64 (y.toNat : Int)).toNat : Int) = _
  rw [ofInt_toNat, ofInt_toNat, wrap64_toNat]
theorem bits_or (x y : BitVec 64) : bits .or .u64 (x.toNat : Int) (y.toNat : Int) = ((x ||| y).toNat : Int) := by
  show IntKind.u64.wrap ((BitVec.ofInt 64 (x.toNat : Int) ||| BitVec.ofInt 64 (y.toNat : Int)).toNat : Int) = _
  rw [ofInt_toNat, ofInt_toNat, wrap64_toNat]
theorem bits_not (x : BitVec 64) : bits .xor .u64 18446744073709551615 (x.toNat : Int) = ((~~~x).toNat : Int) := by
  show IntKind.u64.wrap ((BitVec.ofInt 64 18446744073709551615 ^^^ BitVec.ofInt 64 (x.toNat : Int)).toNat : Int) = _
  rw [show BitVec.ofInt 64 18446744073709551615 = BitVec.allOnes 64 by decide, ofInt_toNat, BitVec.allOnes_xor, wrap64_toNat]
theorem shr_word (x : BitVec 64) (k : Nat) : (x.toNat : Int) / 2 ^ k = ((x >>> k).toNat : Int) := by
  rw [BitVec.toNat_ushiftRight, Nat.shiftRight_eq_div_pow]
  simp
theorem and_one (x : BitVec 64) : bits .and .u64 (x.toNat : Int) 1 = ((x &&& 1#64).toNat : Int) := bits_and x 1#64
theorem has_bit (x : BitVec 64) (k : Nat) : (bits .and .u64 ((x.toNat : Int) / 2 ^ k) 1 == 1) = x.getLsbD k := by
  rw [shr_word, and_one]
  have h : (x >>> k &&& 1#64).toNat = (x.getLsbD k).toNat := by
    rw [BitVec.toNat_and, BitVec.toNat_ushiftRight]
    show (x.toNat >>> k) &&& 1 = _
    rw [Nat.and_one_is_mod, BitVec.getLsbD, Nat.testBit, Nat.and_comm, Nat.and_one_is_mod]
    have : x.toNat >>> k % 2 = 0 ∨ x.toNat >>> k % 2 = 1 := by omega
    rcases this with h | h <;> simp [h]
  rw [h]
  cases x.getLsbD k <;> rfl
/-- The letters of both cases of a word of letters. -/
def foldW (b : BitVec 64) : BitVec 64 := (b &&& 134217726#64) ||| ((b >>> 32) &&& 134217726#64)
theorem shl_word (x : BitVec 64) : IntKind.u64.wrap ((x.toNat : Int) * 4294967296) = ((x <<< 32).toNat : Int) := by
  rw [BitVec.toNat_shiftLeft, Nat.shiftLeft_eq]
  simp only [IntKind.wrap, IntKind.bits, IntKind.signed]
  simp
theorem fold_word (b : BitVec 64) : bits BinOp.or IntKind.u64 (b.toNat : Int) (bits BinOp.or IntKind.u64 (bits BinOp.or IntKind.u64 (bits BinOp.and IntKind.u64 (b.toNat : Int) 134217726) (bits BinOp.and IntKind.u64 ((b.toNat : Int) / 4294967296) 134217726)) (IntKind.u64.wrap (bits BinOp.or IntKind.u64 (bits BinOp.and IntKind.u64 (b.toNat : Int) 134217726) (bits BinOp.and IntKind.u64 ((b.toNat : Int) / 4294967296) 134217726) * 4294967296))) = ((b ||| (foldW b ||| foldW b <<< 32)).toNat : Int) := by
  have e1 : ((b.toNat : Int) / (4294967296 : Int)) = ((b >>> 32).toNat : Int) := shr_word b 32
  have e2 : (134217726 : Int) = ((134217726#64).toNat : Int) := rfl
  rw [e1, e2, bits_and, bits_and, bits_or, shl_word, bits_or, bits_or]
  rfl
end Go.Proofs.YtdnbnigebejgjaaGreatDoor
namespace Go.Proofs.YtdnbnigebejgjaaGreatDoor
open Go.RowKit
def WSet.set (s : WSet) (i : Nat) (x : BitVec 64) : WSet := match i with
  | 0 => { s with a := x }
  | 1 => { s with b := x }
  | 2 => { s with c := x }
  | _ => { s with d := x }
/-- Block B of the world holds the set s. -/
def Blk (w : World) (B : Nat) (s : WSet) : Prop := w.heap[B]? = some (.cells #[.int .u64 s.a.toNat, .int .u64 s.b.toNat, .int .u64 s.c.toNat, .int .u64 s.d.toNat] 41 (0, 0))
theorem Blk.lt {w : World} {B : Nat} {s : WSet} (h : Blk w B s) : B < w.heap.size := lt_of_block h
theorem Blk.cell {w : World} {B : Nat} {s : WSet} (h : Blk w B s) (i : Nat) (hi : i < 4) : w.cell? ⟨B, i, none⟩ = some (.int .u64 ((s.w i).toNat : Int)) := by
  unfold Blk at h
  match i, hi with
  | 0, _ => simp [World.cell?, h, WSet.w]
  | 1, _ => simp [World.cell?, h, WSet.w]
  | 2, _ => simp [World.cell?, h, WSet.w]
  | 3, _ => simp [World.cell?, h, WSet.w]
theorem Blk.free {w : World} {B : Nat} {s : WSet} (h : Blk w B s) (i : Nat) : w.frozen? ⟨B, i, none⟩ = false := by
  unfold Blk at h
  simp [World.frozen?, h]
theorem Blk.set {w : World} {B : Nat} {s : WSet} (h : Blk w B s) (i : Nat) (hi : i < 4) (x : BitVec 64) : Blk (w.setCell ⟨B, i, none⟩ (.int .u64 (x.toNat : Int))) B (s.set i x) := by
  have hlt := h.lt
  unfold Blk at h ⊢
  have h' : w.heap[B] = .cells #[.int .u64 s.a.toNat, .int .u64 s.b.toNat, .int .u64 s.c.toNat, .int .u64 s.d.toNat] 41 (0, 0) := by simpa [Array.getElem?_eq_getElem hlt] using h
  show (w.heap.modify B _)[B]? = _
  rw [Array.getElem?_eq_getElem (by simpa using hlt), Array.getElem_modify_self, h']
  match i, hi with
  | 0, _ => rfl
  | 1, _ => rfl
  | 2, _ => rfl
  | 3, _ => rfl
theorem Blk.other {w : World} {B : Nat} {s : WSet} (h : Blk w B s) (p : Addr) (hp : p.block ≠ B) (v : Value) : Blk (w.setCell p v) B s := by
  unfold Blk at h ⊢
  rw [Below.heap_setCell _ _ _ _ (fun e => hp e.symm)]; exact h
theorem Blk.alloc {w : World} {B : Nat} {s : WSet} (h : Blk w B s) (o : Obj) : Blk (w.alloc o) B s := by
  have := h.lt
  unfold Blk at h ⊢
  rw [Below.heap_alloc _ _ _ this]; exact h
theorem Blk.drew {w : World} {B : Nat} {s : WSet} (h : Blk w B s) : Blk w.drew B s := h
theorem Blk.below {w w' : World} {B n : Nat} {s : WSet} (h : Blk w B s) (hb : Below n w w') (hn : B < n) : Blk w' B s := by
  unfold Blk at h ⊢
  rw [hb.block B hn]; exact h
theorem Blk.new (w : World) (s : WSet) : Blk (w.alloc (.cells #[.int .u64 s.a.toNat, .int .u64 s.b.toNat, .int .u64 s.c.toNat, .int .u64 s.d.toNat] 41)) w.heap.size s := by
  unfold Blk; exact heap_alloc_new w _
def WSet.empty : WSet := ⟨0, 0, 0, 0⟩
theorem Blk.new0 (w : World) : Blk (w.alloc (.cells #[.int .u64 0, .int .u64 0, .int .u64 0, .int .u64 0] 41)) w.heap.size .empty := Blk.new w .empty
/-- A byte more. -/
def WSet.add (s : WSet) (n : Nat) : WSet := s.set (n / 64) (s.w (n / 64) ||| 1#64 <<< (n % 64))
theorem one_shl (k : Nat) (hk : k < 64) : IntKind.u64.wrap ((2 : Int) ^ k) = ((1#64 <<< k).toNat : Int) := by
  rw [BitVec.toNat_shiftLeft, Nat.shiftLeft_eq]
  have : 2 ^ k < 2 ^ 64 := Nat.pow_lt_pow_right (by omega) hk
  have e : ((2 : Int) ^ k) = ((2 ^ k : Nat) : Int) := by simp
  rw [e]
  simp only [IntKind.wrap, IntKind.bits, IntKind.signed]
  simp
theorem add_word (s : WSet) (n : Nat) (v : Value) (h : v = .int .u64 (bits .or .u64 ((s.w (n / 64)).toNat : Int) (IntKind.u64.wrap ((2 : Int) ^ (n % 64))))) : v = .int .u64 ((s.w (n / 64) ||| 1#64 <<< (n % 64)).toNat : Int) := by
  rw [h, one_shl _ (by omega), bits_or]
/-- The value of a set: an array of four words. -/
abbrev WSet.v (s : WSet) : Value := .agg #[.int .u64 s.a.toNat, .int .u64 s.b.toNat, .int .u64 s.c.toNat, .int .u64 s.d.toNat]
theorem Blk.store {w : World} {B : Nat} {s0 : WSet} (h : Blk w B s0) (s : WSet) : Blk ((((w.setCell ⟨B, 0, none⟩ (.int .u64 ((s.w 0).toNat : Int))).setCell ⟨B, 1, none⟩ (.int .u64 ((s.w 1).toNat : Int))).setCell ⟨B, 2, none⟩ (.int .u64 ((s.w 2).toNat : Int))).setCell ⟨B, 3, none⟩ (.int .u64 ((s.w 3).toNat : Int))) B s :=
  (((h.set 0 (by omega) (s.w 0)).set 1 (by omega) (s.w 1)).set 2 (by omega) (s.w 2)).set 3 (by omega) (s.w 3)
theorem set_size : (Tryz.prog.info? 41).map (·.size) = some 4 := by kernel_rfl
theorem Blk.results {w : World} {B : Nat} {s : WSet} (hb : Blk w B s) {fn : Func} {p : Tmp} (h : fn.results = #[.cell p 41]) (tmps : Array Value)
    (hp : tmps.getD p undef = .pointer (some ⟨B, 0, none⟩)) : (results fn tmps).run Tryz.prog w = .ok s.v w :=
  results_cell_row h tmps w B _ _ _ _ hp hb Tryz.underlying41 rfl set_size
theorem Blk.belowStore {w wr : World} {B n : Nat} (s : WSet) (hB : Below n w wr) (h : n ≤ B) : Below n w ((((wr.setCell ⟨B, 0, none⟩ (.int .u64 ((s.w 0).toNat : Int))).setCell ⟨B, 1, none⟩ (.int .u64 ((s.w 1).toNat : Int))).setCell ⟨B, 2, none⟩ (.int .u64 ((s.w 2).toNat : Int))).setCell ⟨B, 3, none⟩ (.int .u64 ((s.w 3).toNat : Int))) :=
  (((hB.setCell (p := ⟨B, 0, none⟩) h _).setCell (p := ⟨B, 1, none⟩) h _).setCell (p := ⟨B, 2, none⟩) h _).setCell (p := ⟨B, 3, none⟩) h _
/-- The cells and marks of a block that holds a set, all at once. -/
theorem Blk.cells {w : World} {B : Nat} {s : WSet} (h : Blk w B s) : w.cell? ⟨B, 0, none⟩ = some (.int .u64 ((s.w 0).toNat : Int)) ∧ w.cell? ⟨B, 1, none⟩ = some (.int .u64 ((s.w 1).toNat : Int)) ∧ w.cell? ⟨B, 2, none⟩ = some (.int .u64 ((s.w 2).toNat : Int)) ∧ w.cell? ⟨B, 3, none⟩ = some (.int .u64 ((s.w 3).toNat : Int)) :=
  ⟨h.cell 0 (by omega), h.cell 1 (by omega), h.cell 2 (by omega), h.cell 3 (by omega)⟩
theorem Blk.frees {w : World} {B : Nat} {s : WSet} (h : Blk w B s) : w.frozen? ⟨B, 0, none⟩ = false ∧ w.frozen? ⟨B, 1, none⟩ = false ∧ w.frozen? ⟨B, 2, none⟩ = false ∧ w.frozen? ⟨B, 3, none⟩ = false :=
  ⟨h.free 0, h.free 1, h.free 2, h.free 3⟩
end Go.Proofs.YtdnbnigebejgjaaGreatDoor
namespace Go.Proofs.YtdnbnigebejgjaaGreatDoor
open Go.RowKit
/-- Block B holds the cells cs of type t. -/
def CBlk (t : TypeId) (w : World) (B : Nat) (cs : List Value) : Prop := w.heap[B]? = some (.cells cs.toArray t (0, 0))
theorem CBlk.lt {t : TypeId} {w : World} {B : Nat} {cs : List Value} (h : CBlk t w B cs) : B < w.heap.size := lt_of_block h
theorem CBlk.cell {t : TypeId} {w : World} {B : Nat} {cs : List Value} (h : CBlk t w B cs) (i : Nat) (hi : i < cs.length) : w.cell? ⟨B, i, none⟩ = some cs[i] := by
  unfold CBlk at h
  simp [World.cell?, h, hi]
theorem CBlk.free {t : TypeId} {w : World} {B : Nat} {cs : List Value} (h : CBlk t w B cs) (i : Nat) : w.frozen? ⟨B, i, none⟩ = false := by
  unfold CBlk at h
  simp [World.frozen?, h]
theorem CBlk.new (t : TypeId) (w : World) (cs : List Value) : CBlk t (w.alloc (.cells cs.toArray t)) w.heap.size cs := heap_alloc_new w _
theorem CBlk.alloc {t : TypeId} {w : World} {B : Nat} {cs : List Value} (h : CBlk t w B cs) (o : Obj) : CBlk t (w.alloc o) B cs := (Below.heap_alloc _ _ _ h.lt).trans h
theorem CBlk.drew {t : TypeId} {w : World} {B : Nat} {cs : List Value} (h : CBlk t w B cs) : CBlk t w.drew B cs := h
theorem CBlk.kept {t : TypeId} {W W' : World} {row : Option Nat} {B : Nat} {cs : List Value} (h : CBlk t W B cs) (hg : W.grownBy W' row) (hne : some B ≠ row) : CBlk t W' B cs := (hg.block B h.lt hne).trans h
theorem CBlk.below {t : TypeId} {w w' : World} {B n : Nat} {cs : List Value} (h : CBlk t w B cs) (hb : Below n w w') (hn : B < n) : CBlk t w' B cs := (hb.block B hn).trans h
theorem CBlk.not_row {u : TypeId} {W : World} {B : Nat} {t : TypeId} {cs : List Value} (h : CBlk u W B cs) (hte : u ≠ t) {base size k : Nat} {v : Value} {xs : List Value} (hr : W.ownsRow base t size v k xs) : some B ≠ v.ownBlock := by
  rcases hr.2 with ⟨rfl, _⟩ | ⟨g, cap, cur, rfl, _, hgb, _⟩
  · simp [Value.ownBlock]
  · intro e'
    obtain rfl : B = g := by simpa [Value.ownBlock] using e'
    have := (show W.heap[B]? = _ from h).symm.trans hgb
    simp at this
    exact hte this.2
theorem CBlk.set {t : TypeId} {w : World} {B : Nat} {cs : List Value} (h : CBlk t w B cs) (i : Nat) (v : Value) : CBlk t (w.setCell ⟨B, i, none⟩ v) B (cs.set i v) := by
  have hlt := h.lt
  unfold CBlk at h ⊢
  have h' : w.heap[B] = .cells cs.toArray t (0, 0) := by simpa [Array.getElem?_eq_getElem hlt] using h
  show (w.heap.modify B _)[B]? = _
  rw [Array.getElem?_eq_getElem (by simpa using hlt), Array.getElem_modify_self, h']
  simp
theorem CBlk.other {t : TypeId} {w : World} {B : Nat} {cs : List Value} (h : CBlk t w B cs) (p : Addr) (hp : p.block ≠ B) (v : Value) : CBlk t (w.setCell p v) B cs := by
  unfold CBlk at h ⊢
  rw [Below.heap_setCell _ _ _ _ (fun e => hp e.symm)]; exact h
end Go.Proofs.YtdnbnigebejgjaaGreatDoor
namespace Go.Proofs.YtdnbnigebejgjaaGreatDoor
open Go.RowKit
theorem eq_int (d : Nat) (a b : Int) (w : World) : (Op.equalIn (d + 1) 39 (.int .u64 a) (.int .u64 b)).run Tryz.prog w = .ok (a == b) w := run_equalIn_int w d 39 .u64 .u64 a b Tryz.underlying39
theorem eq_sets_d (d : Nat) (x0 x1 x2 x3 y0 y1 y2 y3 : Int) (w : World) :
    (Op.equalIn (d + 1 + 1) 41 (.agg #[.int .u64 x0, .int .u64 x1, .int .u64 x2, .int .u64 x3]) (.agg #[.int .u64 y0, .int .u64 y1, .int .u64 y2, .int .u64 y3])).run Tryz.prog w
      = .ok (x0 == y0 && (x1 == y1 && (x2 == y2 && x3 == y3))) w := by
  have hz : ∀ w, (sizeOf 39).run Tryz.prog w = .ok 1 w := fun _ => by kernel_rfl
  have p0 : ∀ (a b c d : Int) w, (part 39 #[.int .u64 a, .int .u64 b, .int .u64 c, .int .u64 d] 0).run Tryz.prog w = .ok (.int .u64 a) w := fun _ _ _ _ _ => by kernel_rfl
  have p1 : ∀ (a b c d : Int) w, (part 39 #[.int .u64 a, .int .u64 b, .int .u64 c, .int .u64 d] 1).run Tryz.prog w = .ok (.int .u64 b) w := fun _ _ _ _ _ => by kernel_rfl
  have p2 : ∀ (a b c d : Int) w, (part 39 #[.int .u64 a, .int .u64 b, .int .u64 c, .int .u64 d] 2).run Tryz.prog w = .ok (.int .u64 c) w := fun _ _ _ _ _ => by kernel_rfl
  have p3 : ∀ (a b c d : Int) w, (part 39 #[.int .u64 a, .int .u64 b, .int .u64 c, .int .u64 d] 3).run Tryz.prog w = .ok (.int .u64 d) w := fun _ _ _ _ _ => by kernel_rfl
  unfold Op.equalIn
  simp only [Sem.run_bind, run_underlying Tryz.underlying41, Result.andThen_ok, hz, Std.Legacy.Range.forIn_eq_forIn_range', Std.Legacy.Range.size]
  simp only [Nat.sub_zero, Nat.div_one, List.range'_succ, List.range'_zero, List.forIn_cons, List.forIn_nil, Sem.run_bind, Nat.mul_one, Nat.zero_add, Nat.reduceAdd, p0, Result.andThen_ok, eq_int, Sem.run_ite, Sem.run_pure]
  cases h0 : (x0 == y0)
  · simp
  · cases h1 : (x1 == y1)
    · simp [p1, eq_int, h1]
    · cases h2 : (x2 == y2)
      · simp [p1, p2, eq_int, h1, h2]
      · simp [p1, p2, p3, eq_int, h1, h2]
        cases h3 : (x3 == y3) <;> simpa using h3
theorem eq_sets (x0 x1 x2 x3 y0 y1 y2 y3 : Int) (w : World) :
    (Op.equalIn 10000 41 (.agg #[.int .u64 x0, .int .u64 x1, .int .u64 x2, .int .u64 x3]) (.agg #[.int .u64 y0, .int .u64 y1, .int .u64 y2, .int .u64 y3])).run Tryz.prog w
      = .ok (x0 == y0 && (x1 == y1 && (x2 == y2 && x3 == y3))) w := eq_sets_d 9998 x0 x1 x2 x3 y0 y1 y2 y3 w
end Go.Proofs.YtdnbnigebejgjaaGreatDoor
namespace Go.Proofs.YtdnbnigebejgjaaGreatDoor
open Go.RowKit
/-- The first n cells behind p. -/
def CellsIn (w : World) (p : Option Addr) (n : Nat) (C : Nat → Value) : Prop := ∀ j, j < n → ∃ b off : Nat, p = some ⟨b, off, none⟩ ∧ b < w.heap.size ∧ w.cell? ⟨b, off + j, none⟩ = some (C j)
theorem CellsIn.below {n k : Nat} {w w' : World} {p : Option Addr} {C : Nat → Value} (h : CellsIn w p n C) (hb : Below k w w') (hk : w.heap.size ≤ k) : CellsIn w' p n C := fun j hj => by
  obtain ⟨b, off, e, h1, h2⟩ := h j hj
  exact ⟨b, off, e, Nat.lt_of_lt_of_le h1 hb.size, (hb.cell (p := ⟨b, off + j, none⟩) (Nat.lt_of_lt_of_le h1 hk)).trans h2⟩
theorem CellsIn.cell {w : World} {b off n : Nat} {C : Nat → Value} (h : CellsIn w (some ⟨b, off, none⟩) n C) (j : Nat) (hj : j < n) : w.cell? ⟨b, off + j, none⟩ = some (C j) := by
  obtain ⟨b', off', e, h1, h2⟩ := h j hj
  injection e with e
  injection e with e1 e2
  subst e1 e2
  exact h2
def intC (f : Nat → Int) (j : Nat) : Value := .int .i64 (f j)
def strC (f : Nat → List UInt8) (j : Nat) : Value := .string ⟨(f j).toArray⟩
end Go.Proofs.YtdnbnigebejgjaaGreatDoor
