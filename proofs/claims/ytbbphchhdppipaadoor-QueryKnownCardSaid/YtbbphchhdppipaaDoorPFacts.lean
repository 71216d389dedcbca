/-
  Percent signs: what is an escape, what a string says, and how it is encoded. No condition.
-/
import Derived.IntWalk
import Derived.Lib.Hide
import Derived.Test.YtbbphchhdppipaaDoorChecked
namespace Go.Proofs.YtbbphchhdppipaaDoor
open Go.RowKit
/-- The value of a hexadecimal digit, and whether it is one. -/
def hexP (n : Nat) : Nat × Bool := if 48 ≤ n ∧ n ≤ 57 then (n - 48, true) else if 65 ≤ n ∧ n ≤ 70 then (n - 55, true) else if 97 ≤ n ∧ n ≤ 102 then (n - 87, true) else (0, false)
def valI (n : Nat) : Int := if (hexP n).2 then ((hexP n).1 : Int) else -1
def isHex (b : UInt8) : Bool := (hexP b.toNat).2
def hexB (b : UInt8) : Nat := (hexP b.toNat).1
theorem hexP_lt (n : Nat) : (hexP n).1 < 16 := by
  unfold hexP
  split
  · simp; omega
  · split
    · simp; omega
    · split
      · simp; omega
      · simp
theorem hexB_lt (b : UInt8) : hexB b < 16 := hexP_lt _
theorem valI_hex {b : UInt8} (h : isHex b = true) : valI b.toNat = (hexB b : Int) := by
  unfold valI; unfold isHex at h; rw [h]; rfl
theorem valI_no {b : UInt8} (h : isHex b = false) : valI b.toNat = -1 := by
  unfold valI; unfold isHex at h; rw [h]; rfl
/-- Does an escape begin here? -/
def escB : List UInt8 → Bool
  | c :: a :: b :: _ => c == 37 && isHex a && isHex b
  | _ => false
/-- The byte that an escape stands for. -/
def escV : List UInt8 → UInt8
  | _ :: a :: b :: _ => UInt8.ofNat (16 * hexB a + hexB b)
  | _ => 0
/-- What a string says, from its byte number i on; where the first fault is, if there is one. 'k' bounds the steps. -/
def decF : Nat → List UInt8 → Nat → Except Nat (List UInt8)
  | _, [], _ => .ok []
  | 0, _ :: _, i => .error i
  | k + 1, c :: r, i => if escB (c :: r) then (decF k ((c :: r).drop 3) (i + 3)).map (escV (c :: r) :: ·) else if c = 37 then .error i else (decF k r (i + 1)).map (c :: ·)
def decL (l : List UInt8) (i : Nat) : Except Nat (List UInt8) := decF l.length l i
theorem decF_fuel : ∀ (k : Nat) (l : List UInt8) (i : Nat), l.length ≤ k → decF k l i = decL l i := by
  intro k
  induction k using Nat.strongRecOn with
  | ind k ih =>
    intro l i hk
    cases l with
    | nil => cases k <;> rfl
    | cons c r =>
      cases k with
      | zero => simp at hk
      | succ k =>
        simp only [List.length_cons] at hk
        unfold decL
        simp only [List.length_cons, decF]
        have hd : ((c :: r).drop 3).length ≤ r.length := by simp
        by_cases he : r.length = k
        · rw [he]
        · rw [ih k (by omega) _ _ (by omega), ih k (by omega) _ _ (by omega), ih r.length (by omega) _ _ hd, ih r.length (by omega) _ _ (Nat.le_refl _)]
theorem decL_nil (i : Nat) : decL [] i = .ok [] := rfl
theorem decL_esc {l : List UInt8} (i : Nat) (h : escB l = true) : decL l i = (decL (l.drop 3) (i + 3)).map (escV l :: ·) := by
  cases l with
  | nil => cases h
  | cons c r =>
    show decF (r.length + 1) (c :: r) i = _
    rw [decF, if_pos h, decF_fuel _ _ _ (by simp)]
theorem decL_bad {r : List UInt8} (i : Nat) (h : escB (37 :: r) = false) : decL (37 :: r) i = .error i := by
  show decF (r.length + 1) (37 :: r) i = _
  rw [decF, if_neg (by rw [h]; simp), if_pos rfl]
theorem decL_plain {c : UInt8} {r : List UInt8} (i : Nat) (hc : c ≠ 37) : decL (c :: r) i = (decL r (i + 1)).map (c :: ·) := by
  have h : escB (c :: r) = false := by
    unfold escB
    split
    · rename_i heq
      injection heq with e1 e2
      subst e1
      simp [hc]
    · rfl
  show decF (r.length + 1) (c :: r) i = _
  rw [decF, if_neg (by rw [h]; simp), if_neg hc]
  rfl
theorem escB_short {l : List UInt8} {k : Nat} (h : l.length ≤ k + 2) : escB (l.drop k) = false := by
  have : (l.drop k).length ≤ 2 := by rw [List.length_drop]; omega
  match hl : l.drop k, this with
  | [], _ => rfl
  | [_], _ => rfl
  | [_, _], _ => rfl
  | _ :: _ :: _ :: _, h => simp at h
theorem drop3 {l : List UInt8} {k : Nat} (h : k + 2 < l.length) : l.drop k = l[k] :: l[k + 1] :: l[k + 2] :: l.drop (k + 3) := by
  rw [List.drop_eq_getElem_cons (by omega), List.drop_eq_getElem_cons (by omega), List.drop_eq_getElem_cons (by omega)]
theorem escB_at {l : List UInt8} {k : Nat} (h : k + 2 < l.length) : escB (l.drop k) = (l[k] == 37 && isHex l[k + 1] && isHex l[k + 2]) := by
  rw [drop3 h]; rfl
theorem ba_get (l : List UInt8) (i : Nat) (h : i < (ByteArray.mk l.toArray).size) : (ByteArray.mk l.toArray)[i]'h = l[i]'h := rfl
end Go.Proofs.YtbbphchhdppipaaDoor
