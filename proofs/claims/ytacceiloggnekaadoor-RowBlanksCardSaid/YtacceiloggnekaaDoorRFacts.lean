/-
  Bare words, quoted words, written words and numbers of rows. No condition.
-/
import Derived.Test.YtacceiloggnekaaDoorProg
import Derived.WalkKit
import Derived.IntWalk
import Derived.Lib.Hide
namespace Go.Proofs.YtacceiloggnekaaDoor
open Go.RowKit
def isBl (b : UInt8) : Bool := b.toNat == 32 || b.toNat == 9
/-- A byte that may stand in a bare word. -/
def isBw (b : UInt8) : Bool := decide (32 < b.toNat) && decide (b.toNat < 127) && b.toNat != 34
/-- Bare. -/
def bareV : List UInt8 → Bool
  | [] => false
  | c :: r => c.toNat != 35 && (c :: r).all isBw
theorem all_drop {p : UInt8 → Bool} {l : List UInt8} {k : Nat} (h : k < l.length) : (l.drop k).all p = (p l[k] && (l.drop (k + 1)).all p) := by
  rw [List.drop_eq_getElem_cons h, List.all_cons]
theorem bareV_of {l : List UInt8} (h : 0 < l.length) : bareV l = ((l[0]).toNat != 35 && l.all isBw) := by
  cases l with
  | nil => simp at h
  | cons c r => rfl
theorem bareV_no {l : List UInt8} (h : l.all isBw = false) : bareV l = false := by
  cases l with
  | nil => rfl
  | cons c r =>
    show (c.toNat != 35 && (c :: r).all isBw) = false
    rw [h, Bool.and_false]
def hexU : List UInt8 := [48, 49, 50, 51, 52, 53, 54, 55, 56, 57, 97, 98, 99, 100, 101, 102]
def hexC (n : Nat) : UInt8 := (hexU[n]?).getD 0
/-- How a byte stands in a quoted word. -/
def escB (b : UInt8) : List UInt8 :=
  if b.toNat = 34 ∨ b.toNat = 92 then [92, b] else if 32 ≤ b.toNat ∧ b.toNat < 127 then [b] else [92, 120, hexC (b.toNat / 16), hexC (b.toNat % 16)]
theorem escB_len (b : UInt8) : 0 < (escB b).length ∧ (escB b).length ≤ 4 := by
  unfold escB
  split
  · simp
  · split <;> simp
def escL (l : List UInt8) : List UInt8 := l.flatMap escB
theorem escL_cons (b : UInt8) (l : List UInt8) : escL (b :: l) = escB b ++ escL l := by
  unfold escL; rw [List.flatMap_cons]
theorem escL_append (a b : List UInt8) : escL (a ++ b) = escL a ++ escL b := by
  unfold escL; rw [List.flatMap_append]
theorem escL_len : ∀ l, (escL l).length ≤ 4 * l.length
  | [] => Nat.le_refl _
  | c :: r => by
    have := escL_len r
    have := (escB_len c).2
    rw [escL_cons, List.length_append, List.length_cons]
    omega
theorem take_next {l : List UInt8} {k : Nat} (h : k < l.length) : l.take (k + 1) = l.take k ++ [l[k]] := by
  rw [List.take_add_one, List.getElem?_eq_getElem h]; rfl
theorem escL_take {l : List UInt8} {k : Nat} (h : k < l.length) : escL (l.take (k + 1)) = escL (l.take k) ++ escB l[k] := by
  rw [take_next h, escL_append, escL_cons]
  show _ ++ (_ ++ []) = _
  rw [List.append_nil]
/-- Write. -/
def writeL (l : List UInt8) : List UInt8 := if bareV l then l else 34 :: escL l ++ [34]
theorem writeL_len (l : List UInt8) : (writeL l).length ≤ 4 * l.length + 2 := by
  unfold writeL
  split
  · omega
  · have := escL_len l
    simp
    omega
/-- A decimal digit. -/
def isDg (b : UInt8) : Bool := decide (48 ≤ b.toNat) && decide (b.toNat ≤ 57)
/-- The number of digits, on from n; none if a byte is no digit. -/
def numF : List UInt8 → Nat → Option Nat
  | [], n => some n
  | c :: r, n => if isDg c then numF r (10 * n + (c.toNat - 48)) else none
theorem numF_at {l : List UInt8} {k n : Nat} (h : k < l.length) : numF (l.drop k) n = if isDg l[k] then numF (l.drop (k + 1)) (10 * n + ((l[k]).toNat - 48)) else none := by
  rw [List.drop_eq_getElem_cons h]; rfl
/-- No digits, too many, or a zero ahead. -/
def BadD (m : Bool) (d : List UInt8) : Prop := d.length = 0 ∨ 9 < d.length ∨ ((d[0]?).getD 0).toNat = 48 ∧ (1 < d.length ∨ m = true)
instance (m : Bool) (d : List UInt8) : Decidable (BadD m d) := inferInstanceAs (Decidable (d.length = 0 ∨ 9 < d.length ∨ ((d[0]?).getD 0).toNat = 48 ∧ (1 < d.length ∨ m = true)))
/-- Number: a number and an error. -/
def digR (m : Bool) (d : List UInt8) (low high : Int) : Int × Nat :=
  if BadD m d then (0, 3)
  else match numF d 0 with
    | none => (0, 3)
    | some n => if (if m then -(n : Int) else (n : Int)) < low ∨ high < (if m then -(n : Int) else (n : Int)) then (0, 2) else ((if m then -(n : Int) else (n : Int)), 0)
def numR (l : List UInt8) (low high : Int) : Int × Nat :=
  match l with
  | [] => (0, 3)
  | c :: r => if c.toNat = 45 then digR true r low high else digR false (c :: r) low high
end Go.Proofs.YtacceiloggnekaaDoor
