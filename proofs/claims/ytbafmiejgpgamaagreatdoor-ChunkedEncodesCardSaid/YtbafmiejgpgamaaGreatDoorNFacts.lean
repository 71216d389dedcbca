/-
  Digits, numbers of texts and texts of numbers. No condition.
-/
import Derived.Test.YtbafmiejgpgamaaGreatDoorProg
import Derived.WalkKit
import Derived.IntWalk
import Derived.Lib.Hide
namespace Go.Proofs.YtbafmiejgpgamaaGreatDoor
open Go.RowKit
/-- One more than the greatest uint64. -/
def U64 : Nat := 18446744073709551616
theorem wrapU {x : Nat} (h : x < U64) : IntKind.u64.wrap (x : Int) = (x : Int) := by
  unfold U64 at h
  simp only [IntKind.wrap, IntKind.bits, IntKind.signed]
  simp
  omega
theorem wrapU' {x : Int} {y : Nat} (e : x = (y : Int)) (h : y < U64) : IntKind.u64.wrap x = (y : Int) := by rw [e, wrapU h]
/-- The value of a digit, -1 if it is none. -/
def valN (hex : Bool) (b : Nat) : Int := if 48 ≤ b ∧ b ≤ 57 then (b : Int) - 48 else if hex = true ∧ 97 ≤ b ∧ b ≤ 102 then (b : Int) - 87 else if hex = true ∧ 65 ≤ b ∧ b ≤ 70 then (b : Int) - 55 else -1
def isD (hex : Bool) (b : UInt8) : Bool := decide (0 ≤ valN hex b.toNat)
def digN (hex : Bool) (b : UInt8) : Nat := (valN hex b.toNat).toNat
theorem valN_lt (hex : Bool) (b : Nat) : -1 ≤ valN hex b ∧ valN hex b < 16 := by
  unfold valN
  split
  · omega
  · split
    · omega
    · split
      · omega
      · omega
theorem valN_dec (b : Nat) : valN false b < 10 := by
  unfold valN
  split
  · omega
  · rw [if_neg (by simp), if_neg (by simp)]; omega
def baseN (hex : Bool) : Nat := if hex then 16 else 10
theorem digN_lt (hex : Bool) (b : UInt8) : digN hex b < baseN hex := by
  unfold digN baseN
  cases hex
  · have := valN_dec b.toNat
    show _ < 10
    omega
  · have := (valN_lt true b.toNat).2
    show _ < 16
    omega
theorem valN_yes {hex : Bool} {b : UInt8} (h : isD hex b = true) : valN hex b.toNat = (digN hex b : Int) := by
  unfold isD at h
  have := of_decide_eq_true h
  unfold digN
  omega
theorem valN_no {hex : Bool} {b : UInt8} (h : isD hex b = false) : valN hex b.toNat = -1 := by
  unfold isD at h
  have := of_decide_eq_false h
  have := (valN_lt hex b.toNat).1
  omega
/-- How many digits a text begins with. -/
def prefF (hex : Bool) : List UInt8 → Nat
  | [] => 0
  | c :: r => if isD hex c then prefF hex r + 1 else 0
theorem prefF_le (hex : Bool) : ∀ l, prefF hex l ≤ l.length
  | [] => Nat.le_refl _
  | c :: r => by
    unfold prefF
    split
    · have := prefF_le hex r
      simp; omega
    · simp
theorem prefF_at {hex : Bool} {l : List UInt8} {k : Nat} (h : k < l.length) : prefF hex (l.drop k) = if isD hex l[k] then prefF hex (l.drop (k + 1)) + 1 else 0 := by
  rw [List.drop_eq_getElem_cons h]; rfl
/-- All are digits. -/
theorem prefF_all {hex : Bool} : ∀ {l : List UInt8}, prefF hex l = l.length → ∀ (k : Nat) (h : k < l.length), isD hex l[k] = true
  | [], _, k, h => by simp at h
  | c :: r, hp, k, h => by
    unfold prefF at hp
    split at hp
    · rename_i hc
      have hr : prefF hex r = r.length := by simpa using hp
      cases k with
      | zero => exact hc
      | succ k => exact prefF_all hr k (by simpa using h)
    · simp at hp
/-- The number of digits, on from n. -/
def numF (hex : Bool) : List UInt8 → Nat → Nat
  | [], n => n
  | c :: r, n => numF hex r (n * baseN hex + digN hex c)
def numL (hex : Bool) (l : List UInt8) : Nat := numF hex l 0
theorem numF_le (hex : Bool) : ∀ (l : List UInt8) (n : Nat), n ≤ numF hex l n
  | [], n => Nat.le_refl n
  | c :: r, n => by
    have h := numF_le hex r (n * baseN hex + digN hex c)
    have h2 : n ≤ n * baseN hex := Nat.le_mul_of_pos_right n (by unfold baseN; split <;> omega)
    show n ≤ numF hex r _
    omega
theorem numF_at {hex : Bool} {l : List UInt8} {k n : Nat} (h : k < l.length) : numF hex (l.drop k) n = numF hex (l.drop (k + 1)) (n * baseN hex + digN hex l[k]) := by
  rw [List.drop_eq_getElem_cons h]; rfl
/-- What Dec and Hex answer: a number and an error. -/
def readR (hex : Bool) (l : List UInt8) (digits : Int) (most : Nat) : Nat × Nat :=
  if l.length = 0 ∨ prefF hex l < l.length then (0, 3) else if digits < (l.length : Int) then (0, 4) else if U64 ≤ numL hex l ∨ most < numL hex l then (0, 2) else (numL hex l, 0)
/-- The digits of a number. -/
def digU : List UInt8 := [48, 49, 50, 51, 52, 53, 54, 55, 56, 57, 97, 98, 99, 100, 101, 102]
def digC (n : Nat) : UInt8 := (digU[n]?).getD 0
def digF (base : Nat) : Nat → Nat → List UInt8
  | 0, n => [digC (n % base)]
  | k + 1, n => if n < base then [digC (n % base)] else digF base k (n / base) ++ [digC (n % base)]
def digL (base n : Nat) : List UInt8 := digF base 64 n
theorem digF_length (base : Nat) : ∀ k n, 0 < (digF base k n).length ∧ (digF base k n).length ≤ k + 1
  | 0, n => by simp [digF]
  | k + 1, n => by
    unfold digF
    split
    · simp
    · have := digF_length base k (n / base)
      rw [List.length_append]
      simp
      omega
theorem digF_fuel {base : Nat} (hb : 2 ≤ base) : ∀ (k j n : Nat), n < 2 ^ k → n < 2 ^ j → digF base k n = digF base j n
  | 0, 0, n, _, _ => rfl
  | 0, j + 1, n, h, _ => by
    have : n = 0 := by simpa using h
    subst this
    rw [digF, digF, if_pos (by omega)]
  | k + 1, 0, n, _, h => by
    have : n = 0 := by simpa using h
    subst this
    rw [digF, digF, if_pos (by omega)]
  | k + 1, j + 1, n, h1, h2 => by
    rw [digF, digF]
    split
    · rfl
    · have e : n / base ≤ n / 2 := Nat.div_le_div_left hb (by omega)
      have a : n / base < 2 ^ k := by
        rw [Nat.pow_succ] at h1; omega
      have b : n / base < 2 ^ j := by
        rw [Nat.pow_succ] at h2; omega
      rw [digF_fuel hb k j _ a b]
theorem digL_step {base n : Nat} (hb : 2 ≤ base) (hn : n < U64) : digL base n = if n < base then [digC (n % base)] else digL base (n / base) ++ [digC (n % base)] := by
  have e : n / base ≤ n / 2 := Nat.div_le_div_left hb (by omega)
  have h64 : U64 = 2 ^ 64 := by decide
  have h63 : (2 : Nat) ^ 64 = 2 ^ 63 * 2 := rfl
  show digF base (63 + 1) n = _
  rw [digF]
  split
  · rfl
  · rw [show digL base (n / base) = digF base 63 (n / base) from digF_fuel hb 64 63 _ (by omega) (by omega)]
end Go.Proofs.YtbafmiejgpgamaaGreatDoor
