/-
  Sets of 256 bytes as four words, and what Go's bit operations on words come to, as operations on bit vectors. No condition.
-/
import Derived.Test.YtbbphchhdppipaaDoorProg
import Derived.WalkKit
namespace Go.Proofs.YtbbphchhdppipaaDoor
open Go.RowKit
/-- A set of bytes: four words of 64 bits. -/
structure WSet where
  a : BitVec 64
  b : BitVec 64
  c : BitVec 64
  d : BitVec 64
deriving DecidableEq
/-- The words by their numbers. -/
def WSet.w (s : WSet) : Nat → BitVec 64
  | 0 => s.a
  | 1 => s.b
  | 2 => s.c
  | _ => s.d
/-- Is the byte n in s? -/
def WSet.has (s : WSet) (n : Nat) : Bool := (s.w (n / 64)).getLsbD (n % 64)
theorem idx4 (a b c d : BitVec 64) (n : Nat) (hn : n < 4) : [Value.int .u64 (a.toNat : Int), Value.int .u64 (b.toNat : Int), Value.int .u64 (c.toNat : Int), Value.int .u64 (d.toNat : Int)][n]? = some (.int .u64 (((WSet.mk a b c d).w n).toNat : Int)) := by
  match n, hn with
  | 0, _ => rfl
  | 1, _ => rfl
  | 2, _ => rfl
  | 3, _ => rfl
theorem wrap64_toNat (x : BitVec 64) : IntKind.u64.wrap (x.toNat : Int) = (x.toNat : Int) := by
  have := x.isLt
  simp only [IntKind.wrap, IntKind.bits, IntKind.signed]
  simp
  omega
theorem ofInt_toNat (x : BitVec 64) : BitVec.ofInt 64 (x.toNat : Int) = x := by
  rw [BitVec.ofInt_natCast, BitVec.ofNat_toNat, BitVec.setWidth_eq]
theorem bits_and (x y : BitVec 64) : bits .and .u64 (x.toNat : Int) (y.toNat : Int) = ((x &&& y).toNat : Int) := by
  show IntKind.u64.wrap ((BitVec.ofInt 64 (x.toNat : Int) &&& BitVec.ofInt 64 (y.toNat : Int)).toNat : Int) = _
  rw [ofInt_toNat, ofInt_toNat, wrap64_toNat]
theorem bits_or (x y : BitVec 64) : bits .or .u64 (x.toNat : Int) (y.toNat : Int) = ((x ||| y).toNat : Int) := by
  show IntKind.u64.wrap ((BitVec.ofInt 64 (x.toNat : Int) ||| BitVec.ofInt 64 (y.toNat : Int)).toNat : Int) = _
  rw [ofInt_toNat, ofInt_toNat, wrap64_toNat]
theorem bits_not (x : BitVec 64) : bits .xor .u64 18446744073709551615 (x.toNat : Int) = ((~~~x).toNat : Int) := by
  show IntKind.u64.wrap ((BitVec.ofInt 64 18446744073709551615 ^^^ BitVec.ofInt 64 (x.toNat : Int)).toNat : Int) = _
  rw [show BitVec.ofInt 64 18446744073709551615 = BitVec.allOnes 64 by decide, ofInt_toNat, BitVec.allOnes_xor, wrap64_toNat]
theorem shr_word (x : BitVec 64) (k : Nat) : (x.toNat : Int) / 2 ^ k = ((x >>> k).toNat : Int) := by
  rw [BitVec.toNat_ushiftRight, Nat.shiftRight_eq_div_pow]
  simp
theorem and_one (x : BitVec 64) : bits .and .u64 (x.toNat : Int) 1 = ((x &&& 1#64).toNat : Int) := bits_and x 1#64
theorem has_bit (x : BitVec 64) (k : Nat) : (bits .and .u64 ((x.toNat : Int) / 2 ^ k) 1 == 1) = x.getLsbD k := by
  rw [shr_word, and_one]
  have h : (x >>> k &&& 1#64).toNat = (x.getLsbD k).toNat := by
    rw [BitVec.toNat_and, BitVec.toNat_ushiftRight]
    show (x.toNat >>> k) &&& 1 = _
    rw [Nat.and_one_is_mod, BitVec.getLsbD, Nat.testBit, Nat.and_comm, Nat.and_one_is_mod]
    have : x.toNat >>> k % 2 = 0 ∨ x.toNat >>> k % 2 = 1 := by omega
    rcases this with h | h <;> simp [h]
  rw [h]
  cases x.getLsbD k <;> rfl
/-- The letters of both cases of a word of letters. -/
def foldW (b : BitVec 64) : BitVec 64 := (b &&& 134217726#64) ||| ((b >>> 32) &&& 134217726#64)
theorem shl_word (x : BitVec 64) : IntKind.u64.wrap ((x.toNat : Int) * 4294967296) = ((x <<< 32).toNat : Int) := by
  rw [BitVec.toNat_shiftLeft, Nat.shiftLeft_eq]
  simp only [IntKind.wrap, IntKind.bits, IntKind.signed]
  simp
theorem fold_word (b : BitVec 64) : bits BinOp.or IntKind.u64 (b.toNat : Int) (bits BinOp.or IntKind.u64 (bits BinOp.or IntKind.u64 (bits BinOp.and IntKind.u64 (b.toNat : Int) 134217726) (bits BinOp.and IntKind.u64 ((b.toNat : Int) / 4294967296) 134217726)) (IntKind.u64.wrap (bits BinOp.or IntKind.u64 (bits BinOp.and IntKind.u64 (b.toNat : Int) 134217726) (bits BinOp.and IntKind.u64 ((b.toNat : Int) / 4294967296) 134217726) * 4294967296))) = ((b ||| (foldW b ||| foldW b <<< 32)).toNat : Int) := by
  have e1 : ((b.toNat : Int) / (4294967296 : Int)) = ((b >>> 32).toNat : Int) := shr_word b 32
  have e2 : (134217726 : Int) = ((134217726#64).toNat : Int) := rfl
  rw [e1, e2, bits_and, bits_and, bits_or, shl_word, bits_or, bits_or]
  rfl
end Go.Proofs.YtbbphchhdppipaaDoor
