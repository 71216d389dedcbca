/-
  The first cells behind an address. No condition.
-/
import Derived.Test.YtdnbnigebejgjaaGreatDoorProg
import Derived.WalkKit
import Derived.Below
namespace Go.Proofs.YtdnbnigebejgjaaGreatDoor
open Go.RowKit
/-- The first n cells behind p. -/
def CellsIn (w : World) (p : Option Addr) (n : Nat) (C : Nat → Value) : Prop := ∀ j, j < n → ∃ b off : Nat, p = some ⟨b, off, none⟩ ∧ b < w.heap.size ∧ w.cell? ⟨b, off + j, none⟩ = some (C j)
theorem CellsIn.below {n k : Nat} {w w' : World} {p : Option Addr} {C : Nat → Value} (h : CellsIn w p n C) (hb : Below k w w') (hk : w.heap.size ≤ k) : CellsIn w' p n C := fun j hj => by
  obtain ⟨b, off, e, h1, h2⟩ := h j hj
  exact ⟨b, off, e, Nat.lt_of_lt_of_le h1 hb.size, (hb.cell (p := ⟨b, off + j, none⟩) (Nat.lt_of_lt_of_le h1 hk)).trans h2⟩
theorem CellsIn.cell {w : World} {b off n : Nat} {C : Nat → Value} (h : CellsIn w (some ⟨b, off, none⟩) n C) (j : Nat) (hj : j < n) : w.cell? ⟨b, off + j, none⟩ = some (C j) := by
  obtain ⟨b', off', e, h1, h2⟩ := h j hj
  injection e with e
  injection e with e1 e2
  subst e1 e2
  exact h2
def intC (f : Nat → Int) (j : Nat) : Value := .int .i64 (f j)
def strC (f : Nat → List UInt8) (j : Nat) : Value := .string ⟨(f j).toArray⟩
end Go.Proofs.YtdnbnigebejgjaaGreatDoor
