/-
  The number of bits of a word, counted as math/bits counts it: plain facts, and math/bits.OnesCount64 for every word.
-/
import Derived.Test.YtbpnhiejmkeclaaDoorBlk
namespace Go.Proofs.YtbpnhiejmkeclaaDoor
open Go.RowKit
theorem and_split (a b c d : Nat) (ha : a < 256) (hc : c < 256) : (a + 256 * b) &&& (c + 256 * d) = (a &&& c) + 256 * (b &&& d) := by
  have h1 : (a + 256 * b) = 2 ^ 8 * b + a := by omega
  have h2 : (c + 256 * d) = 2 ^ 8 * d + c := by omega
  have h3 : a &&& c < 2 ^ 8 := Nat.and_lt_two_pow _ (by omega)
  have h4 : (a &&& c) + 256 * (b &&& d) = 2 ^ 8 * (b &&& d) + (a &&& c) := by omega
  rw [h1, h2, h4]
  apply Nat.eq_of_testBit_eq
  intro i
  rw [Nat.testBit_and, Nat.testBit_two_pow_mul_add _ (by omega), Nat.testBit_two_pow_mul_add _ (by omega), Nat.testBit_two_pow_mul_add _ h3]
  split
  · rw [Nat.testBit_and]
  · rw [Nat.testBit_and]
def f1 (M x : Nat) : Nat := (x / 2 &&& M) + (x &&& M)
def f2 (M x : Nat) : Nat := (x / 4 &&& M) + (x &&& M)
def f3 (M x : Nat) : Nat := (x / 16 + x) &&& M
def rep (m : Nat) : Nat → Nat
  | 0 => 0
  | n + 1 => m + 256 * rep m n
theorem f1_small : ∀ r, r < 256 → ∀ k, k < 2 → ((r / 2 + 128 * k) &&& 0x55 = r / 2 &&& 0x55) := by decide +kernel
theorem f2_small : ∀ r, r < 256 → ∀ k, k < 4 → ((r / 4 + 64 * k) &&& 0x33 = r / 4 &&& 0x33) := by decide +kernel
theorem f3_small : ∀ r, r < 256 → ∀ k, k < 16 → ((r / 16 + 16 * k + r) &&& 0x0f = (r / 16 + r) &&& 0x0f) := by decide +kernel
/-- The number of bits of a byte. -/
def c8 (b : Nat) : Nat := (List.range 8).countP b.testBit
theorem byte_steps : ∀ r, r < 256 → f1 0x55 r < 256 ∧ f2 0x33 (f1 0x55 r) < 69 ∧ f2 0x33 (f1 0x55 r) % 16 ≤ 4 ∧ f3 0x0f (f2 0x33 (f1 0x55 r)) = c8 r ∧ c8 r ≤ 8 := by decide +kernel
theorem f1_step (M r q : Nat) (hr : r < 256) : f1 (0x55 + 256 * M) (r + 256 * q) = f1 0x55 r + 256 * f1 M q := by
  unfold f1
  have e : (r + 256 * q) / 2 = (r / 2 + 128 * (q % 2)) + 256 * (q / 2) := by omega
  rw [e, and_split _ _ _ _ (by omega) (by omega), and_split _ _ _ _ hr (by omega), f1_small r hr _ (by omega)]
  omega
theorem f2_step (M r q : Nat) (hr : r < 256) : f2 (0x33 + 256 * M) (r + 256 * q) = f2 0x33 r + 256 * f2 M q := by
  unfold f2
  have e : (r + 256 * q) / 4 = (r / 4 + 64 * (q % 4)) + 256 * (q / 4) := by omega
  rw [e, and_split _ _ _ _ (by omega) (by omega), and_split _ _ _ _ hr (by omega), f2_small r hr _ (by omega)]
  omega
theorem f3_step (M r q : Nat) (hr : r < 69) (hq : q % 16 ≤ 4) : f3 (0x0f + 256 * M) (r + 256 * q) = f3 0x0f r + 256 * f3 M q := by
  unfold f3
  have e : (r + 256 * q) / 16 + (r + 256 * q) = (r / 16 + 16 * (q % 16) + r) + 256 * (q / 16 + q) := by omega
  rw [e, and_split _ _ _ _ (by omega) (by omega), f3_small r (by omega) _ (by omega)]
/-- The bytes' numbers of bits, as digits. -/
def digits : Nat → Nat → Nat
  | 0, _ => 0
  | n + 1, x => c8 (x % 256) + 256 * digits n (x / 256)
theorem steps : ∀ (n x : Nat), x < 256 ^ n → f2 (rep 0x33 n) (f1 (rep 0x55 n) x) % 16 ≤ 4 ∧ f3 (rep 0x0f n) (f2 (rep 0x33 n) (f1 (rep 0x55 n) x)) = digits n x
  | 0, x, h => by
    have : x = 0 := by simpa using h
    subst this
    decide
  | n + 1, x, h => by
    have hq : x / 256 < 256 ^ n := by rw [Nat.pow_succ] at h; omega
    obtain ⟨i1, i2⟩ := steps n (x / 256) hq
    obtain ⟨b1, b2, b3, b4, -⟩ := byte_steps (x % 256) (by omega)
    have e : x = x % 256 + 256 * (x / 256) := by omega
    have e1 : f1 (rep 0x55 (n + 1)) x = f1 0x55 (x % 256) + 256 * f1 (rep 0x55 n) (x / 256) := by
      conv => lhs; rw [e]
      exact f1_step _ _ _ (by omega)
    rw [e1]
    show f2 (0x33 + 256 * rep 0x33 n) _ % 16 ≤ 4 ∧ f3 (0x0f + 256 * rep 0x0f n) (f2 (0x33 + 256 * rep 0x33 n) _) = _
    rw [f2_step _ _ _ b1]
    refine ⟨by omega, ?_⟩
    rw [f3_step _ _ _ b2 i1, b4, i2]
    rfl
/-- The number of bits among the lowest 8 n. -/
def bitsOf (n x : Nat) : Nat := (List.range (8 * n)).countP x.testBit
theorem bitsOf_succ (n x : Nat) : bitsOf (n + 1) x = c8 (x % 256) + bitsOf n (x / 256) := by
  unfold bitsOf c8
  rw [show 8 * (n + 1) = 8 + 8 * n by omega, List.range_add, List.countP_append, List.countP_map]
  congr 1
  · apply List.countP_congr
    intro j hj
    have : j < 8 := List.mem_range.1 hj
    rw [show (256 : Nat) = 2 ^ 8 from rfl, Nat.testBit_mod_two_pow]
    simp [this]
  · apply List.countP_congr
    intro j _
    show x.testBit (8 + j) = true ↔ (x / 256).testBit j = true
    rw [show (256 : Nat) = 2 ^ 8 from rfl, Nat.testBit_div_two_pow, Nat.add_comm]
/-- The number of bits of a word. -/
def pc (x : BitVec 64) : Nat := bitsOf 8 x.toNat
theorem add_words (x y : BitVec 64) : IntKind.u64.wrap ((x.toNat : Int) + (y.toNat : Int)) = ((x + y).toNat : Int) := by
  rw [BitVec.toNat_add]
  simp only [IntKind.wrap, IntKind.bits, IntKind.signed]
  simp
theorem div_of (a k l r : Nat) (h : a = l + k * r) (hl : l < k) : a / k = r := by
  rw [h, Nat.add_mul_div_left _ _ (by omega), Nat.div_eq_of_lt hl, Nat.zero_add]
theorem mod_of (a l r : Nat) (h : a = l + 128 * r) (hl : l < 128) : a % 128 = l := by omega
set_option maxHeartbeats 4000000 in
theorem digit_sum (x : Nat) : digits 8 x < 9 * 256 ^ 7 * 2 ∧ (digits 8 x + digits 8 x / 256 + (digits 8 x + digits 8 x / 256) / 65536 + (digits 8 x + digits 8 x / 256 + (digits 8 x + digits 8 x / 256) / 65536) / 4294967296) % 128 = bitsOf 8 x ∧ bitsOf 8 x ≤ 64 := by
  have c : ∀ r, c8 (r % 256) ≤ 8 := fun r => (byte_steps (r % 256) (by omega)).2.2.2.2
  simp only [bitsOf_succ, digits]
  have h0 : bitsOf 0 (x / 256 / 256 / 256 / 256 / 256 / 256 / 256 / 256) = 0 := rfl
  rw [h0]
  generalize x / 256 = x1
  have c0 := c x
  have c1 := c x1
  have c2 := c (x1 / 256)
  have c3 := c (x1 / 256 / 256)
  have c4 := c (x1 / 256 / 256 / 256)
  have c5 := c (x1 / 256 / 256 / 256 / 256)
  have c6 := c (x1 / 256 / 256 / 256 / 256 / 256)
  have c7 := c (x1 / 256 / 256 / 256 / 256 / 256 / 256)
  generalize c8 (x % 256) = d0 at *
  generalize c8 (x1 % 256) = d1 at *
  generalize c8 (x1 / 256 % 256) = d2 at *
  generalize c8 (x1 / 256 / 256 % 256) = d3 at *
  generalize c8 (x1 / 256 / 256 / 256 % 256) = d4 at *
  generalize c8 (x1 / 256 / 256 / 256 / 256 % 256) = d5 at *
  generalize c8 (x1 / 256 / 256 / 256 / 256 / 256 % 256) = d6 at *
  generalize c8 (x1 / 256 / 256 / 256 / 256 / 256 / 256 % 256) = d7 at *
  clear h0 c
  have hY' : d0 + 256 * (d1 + 256 * (d2 + 256 * (d3 + 256 * (d4 + 256 * (d5 + 256 * (d6 + 256 * (d7 + 256 * 0))))))) = d0 + 256 * (d1 + 256 * (d2 + 256 * (d3 + 256 * (d4 + 256 * (d5 + 256 * (d6 + 256 * d7)))))) := rfl
  rw [hY', div_of (d0 + 256 * (d1 + 256 * (d2 + 256 * (d3 + 256 * (d4 + 256 * (d5 + 256 * (d6 + 256 * d7))))))) 256 d0 (d1 + 256 * (d2 + 256 * (d3 + 256 * (d4 + 256 * (d5 + 256 * (d6 + 256 * d7)))))) rfl (by omega)]
  rw [div_of (d0 + 256 * (d1 + 256 * (d2 + 256 * (d3 + 256 * (d4 + 256 * (d5 + 256 * (d6 + 256 * d7)))))) + (d1 + 256 * (d2 + 256 * (d3 + 256 * (d4 + 256 * (d5 + 256 * (d6 + 256 * d7))))))) 65536 (d0 + d1 + 256 * (d1 + d2))
    ((d2 + d3) + 256 * ((d3 + d4) + 256 * ((d4 + d5) + 256 * ((d5 + d6) + 256 * ((d6 + d7) + 256 * d7))))) (by omega) (by omega)]
  rw [div_of (d0 + 256 * (d1 + 256 * (d2 + 256 * (d3 + 256 * (d4 + 256 * (d5 + 256 * (d6 + 256 * d7)))))) + (d1 + 256 * (d2 + 256 * (d3 + 256 * (d4 + 256 * (d5 + 256 * (d6 + 256 * d7)))))) + ((d2 + d3) + 256 * ((d3 + d4) + 256 * ((d4 + d5) + 256 * ((d5 + d6) + 256 * ((d6 + d7) + 256 * d7)))))) 4294967296
    (d0 + d1 + d2 + d3 + 256 * (d1 + d2 + d3 + d4 + 256 * (d2 + d3 + d4 + d5 + 256 * (d3 + d4 + d5 + d6)))) ((d4 + d5 + d6 + d7) + 256 * ((d5 + d6 + d7) + 256 * ((d6 + d7) + 256 * d7))) (by omega) (by omega)]
  refine ⟨by omega, ?_, by omega⟩
  rw [mod_of _ (d0 + (d1 + (d2 + (d3 + (d4 + (d5 + (d6 + d7))))))) (2 * (d1 + 256 * (d2 + 256 * (d3 + 256 * (d4 + 256 * (d5 + 256 * (d6 + 256 * d7))))) + (d2 + 256 * (d3 + 256 * (d4 + 256 * (d5 + 256 * (d6 + 256 * d7))))) + ((d3 + d4) + 256 * ((d4 + d5) + 256 * ((d5 + d6) + 256 * ((d6 + d7) + 256 * d7)))) + ((d5 + d6 + d7) + 256 * ((d6 + d7) + 256 * d7)))) (by omega) (by omega)]
  omega
end Go.Proofs.YtbpnhiejmkeclaaDoor
