/-
  Texts of numbers say these numbers; leading zeros and the case of digits change nothing. No condition.
-/
import Derived.Test.YtekbahpobhjobaaDoorNFacts
namespace Go.Proofs.YtekbahpobhjobaaDoor
open Go.RowKit
theorem numF_app (hex : Bool) : ∀ (x y : List UInt8) (n : Nat), numF hex (x ++ y) n = numF hex y (numF hex x n)
  | [], _, _ => rfl
  | c :: x, y, n => numF_app hex x y (n * baseN hex + digN hex c)
theorem prefF_app {hex : Bool} : ∀ {x y : List UInt8}, prefF hex x = x.length → prefF hex (x ++ y) = x.length + prefF hex y
  | [], y, _ => by simp
  | c :: x, y, h => by
    unfold prefF at h
    split at h
    · rename_i hc
      have hx : prefF hex x = x.length := by simpa using h
      show (if isD hex c then prefF hex (x ++ y) + 1 else 0) = _
      rw [if_pos hc, prefF_app hx]
      simp; omega
    · simp at h
theorem prefF_one {hex : Bool} {c : UInt8} (h : isD hex c = true) : prefF hex [c] = 1 := by
  show (if isD hex c then prefF hex [] + 1 else 0) = 1
  rw [if_pos h]; rfl
theorem digC_dec : ∀ a : Fin 10, isD false (digC a.val) = true ∧ digN false (digC a.val) = a.val := by decide +kernel
theorem digC_hex : ∀ a : Fin 16, isD true (digC a.val) = true ∧ digN true (digC a.val) = a.val := by decide +kernel
theorem digC_is (hex : Bool) (a : Nat) (h : a < baseN hex) : isD hex (digC a) = true ∧ digN hex (digC a) = a := by
  cases hex
  · exact digC_dec ⟨a, h⟩
  · exact digC_hex ⟨a, h⟩
theorem baseN_le (hex : Bool) : 2 ≤ baseN hex ∧ baseN hex ≤ 16 := by cases hex <;> decide
theorem digL_is (hex : Bool) : ∀ n, n < U64 → numL hex (digL (baseN hex) n) = n ∧ prefF hex (digL (baseN hex) n) = (digL (baseN hex) n).length := by
  intro n
  induction n using Nat.strongRecOn with
  | ind n ih =>
  intro hn
  have hb := baseN_le hex
  have hm := Nat.mod_lt n (show 0 < baseN hex by omega)
  have hc := digC_is hex (n % baseN hex) hm
  rw [digL_step hb.1 hn]
  split
  · rename_i h
    refine ⟨?_, prefF_one hc.1⟩
    show 0 * baseN hex + digN hex _ = n
    rw [hc.2, Nat.mod_eq_of_lt h]; omega
  · rename_i h
    have hd : n / baseN hex < n := Nat.div_lt_self (by omega) (by omega)
    obtain ⟨h1, h2⟩ := ih _ hd (Nat.lt_trans hd hn)
    constructor
    · unfold numL at h1 ⊢
      rw [numF_app, h1]
      show n / baseN hex * baseN hex + digN hex _ = n
      rw [hc.2, Nat.mul_comm]
      exact Nat.div_add_mod n _
    · rw [prefF_app h2, prefF_one hc.1, List.length_append]; rfl
theorem digL_length (base n : Nat) : 0 < (digL base n).length ∧ (digL base n).length ≤ 65 := digF_length base 64 n
theorem digL_inj {n m : Nat} (hn : n < U64) (hm : m < U64) (h : digL 10 n = digL 10 m) : n = m := by
  have h1 := (digL_is false n hn).1
  have h2 := (digL_is false m hm).1
  have : digL (baseN false) n = digL (baseN false) m := h
  rw [this] at h1
  exact h1.symm.trans h2
/-- A number within all limits. -/
theorem readR_ok {hex : Bool} {l : List UInt8} {digits : Int} {most : Nat} (h0 : 0 < l.length) (hp : prefF hex l = l.length) (hd : (l.length : Int) ≤ digits) (hm : numL hex l ≤ most) (hmost : most < U64) : readR hex l digits most = (numL hex l, 0) := by
  unfold readR
  rw [if_neg (by omega), if_neg (by omega), if_neg (by omega)]
theorem readR_long {hex : Bool} {l : List UInt8} {digits : Int} {most : Nat} (h0 : 0 < l.length) (hp : prefF hex l = l.length) (hd : digits < (l.length : Int)) : readR hex l digits most = (0, 4) := by
  unfold readR
  rw [if_neg (by omega), if_pos hd]
theorem readR_range {hex : Bool} {l : List UInt8} {digits : Int} {most : Nat} (h0 : 0 < l.length) (hp : prefF hex l = l.length) (hd : (l.length : Int) ≤ digits) (hm : most < numL hex l) : readR hex l digits most = (0, 2) := by
  unfold readR
  rw [if_neg (by omega), if_neg (by omega), if_pos (Or.inr hm)]
/-- Zeros ahead. -/
theorem zero_is (hex : Bool) : isD hex 48 = true ∧ digN hex 48 = 0 := by cases hex <;> decide +kernel
theorem numF_zeros (hex : Bool) : ∀ k, numF hex (List.replicate k 48) 0 = 0
  | 0 => rfl
  | k + 1 => by
    show numF hex (List.replicate k 48) (0 * baseN hex + digN hex 48) = 0
    rw [(zero_is hex).2, Nat.zero_mul]
    exact numF_zeros hex k
theorem prefF_zeros (hex : Bool) : ∀ k, prefF hex (List.replicate k 48) = (List.replicate k (48 : UInt8)).length
  | 0 => rfl
  | k + 1 => by
    show (if isD hex 48 then prefF hex (List.replicate k 48) + 1 else 0) = _
    rw [if_pos (zero_is hex).1, prefF_zeros hex k]; simp
theorem zeros_is (hex : Bool) (k : Nat) {l : List UInt8} (hp : prefF hex l = l.length) : numL hex (List.replicate k 48 ++ l) = numL hex l ∧ prefF hex (List.replicate k 48 ++ l) = (List.replicate k (48 : UInt8) ++ l).length := by
  constructor
  · unfold numL
    rw [numF_app, numF_zeros]
  · rw [prefF_app (prefF_zeros hex k), hp, List.length_append]
/-- Small letters as capital ones. -/
def upC (c : UInt8) : UInt8 := if 97 ≤ c then c - 97 + 65 else c
theorem upC_table : ∀ a : Fin 256, isD true (UInt8.ofNat a.val) = true → isD true (upC (UInt8.ofNat a.val)) = true ∧ digN true (upC (UInt8.ofNat a.val)) = digN true (UInt8.ofNat a.val) := by decide +kernel
theorem upC_is (c : UInt8) (h : isD true c = true) : isD true (upC c) = true ∧ digN true (upC c) = digN true c := by
  have := upC_table ⟨c.toNat, UInt8.toNat_lt c⟩
  simp only [UInt8.ofNat_toNat] at this
  exact this h
theorem numF_up : ∀ (l : List UInt8) (n : Nat), prefF true l = l.length → numF true (l.map upC) n = numF true l n ∧ prefF true (l.map upC) = (l.map upC).length
  | [], _, _ => ⟨rfl, rfl⟩
  | c :: l, n, h => by
    unfold prefF at h
    split at h
    · rename_i hc
      have hl : prefF true l = l.length := by simpa using h
      obtain ⟨u1, u2⟩ := upC_is c hc
      obtain ⟨i1, i2⟩ := numF_up l (n * baseN true + digN true c) hl
      constructor
      · show numF true (l.map upC) (n * baseN true + digN true (upC c)) = _
        rw [u2, i1]; rfl
      · show (if isD true (upC c) then prefF true (l.map upC) + 1 else 0) = _
        rw [if_pos u1, i2]; simp
    · simp at h
end Go.Proofs.YtekbahpobhjobaaDoor
