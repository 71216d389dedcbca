/-
  The reference's Encode for every text and every set.
-/
import Derived.Test.YtbbphchhdppipaaDoorUOwn
namespace Go.Proofs.YtbbphchhdppipaaDoor
open Go.RowKit
attribute [local go_sem] ba_get w_0 w_1 w_2 w_3
/-- The digits of an escape. -/
def hexUL : List UInt8 := [48, 49, 50, 51, 52, 53, 54, 55, 56, 57, 65, 66, 67, 68, 69, 70]
def hexU (n : Nat) : UInt8 := (hexUL[n]?).getD 0
theorem hexU_list (i : Nat) (h : i < ([48, 49, 50, 51, 52, 53, 54, 55, 56, 57, 65, 66, 67, 68, 69, 70] : List UInt8).length) : ([48, 49, 50, 51, 52, 53, 54, 55, 56, 57, 65, 66, 67, 68, 69, 70] : List UInt8)[i]'h = hexU i := by
  unfold hexU
  rw [List.getElem?_eq_getElem (show i < hexUL.length from h)]
  rfl
/-- How a byte is encoded. -/
def enc1 (s : WSet) (b : UInt8) : List UInt8 := if (b != 37 && s.has b.toNat) then [b] else [37, hexU (b.toNat / 16), hexU (b.toNat % 16)]
def encL (s : WSet) (l : List UInt8) : List UInt8 := l.flatMap (enc1 s)
theorem enc1_length (s : WSet) (b : UInt8) : (enc1 s b).length ≤ 3 := by
  unfold enc1; split <;> simp
theorem encL_length (s : WSet) : ∀ l : List UInt8, (encL s l).length ≤ 3 * l.length
  | [] => Nat.le_refl _
  | b :: l => by
    have h1 := enc1_length s b
    have h2 := encL_length s l
    show (enc1 s b ++ encL s l).length ≤ _
    rw [List.length_append, List.length_cons]
    omega
theorem encL_take {s : WSet} {l : List UInt8} {k : Nat} (h : k < l.length) : encL s (l.take (k + 1)) = encL s (l.take k) ++ enc1 s l[k] := by
  unfold encL
  rw [List.take_succ_eq_append_getElem h, List.flatMap_append]
  simp
end Go.Proofs.YtbbphchhdppipaaDoor
