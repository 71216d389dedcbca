/-
  Words whose low bits are cleared, the lowest bit of a word, and the bytes of a set from one number to another: plain facts. No condition.
-/
import Derived.Test.YtbpnhiejmkeclaaDoorBlk
import Derived.Lib.TrailingZeros
namespace Go.Proofs.YtbpnhiejmkeclaaDoor
open Go.RowKit
/-- x without its lowest m bits. -/
def hiW (x : BitVec 64) (m : Nat) : BitVec 64 := x >>> m <<< m
theorem hiW_bit (x : BitVec 64) (m j : Nat) : (hiW x m).getLsbD j = (decide (m ≤ j) && x.getLsbD j) := by
  unfold hiW
  rw [BitVec.getLsbD_shiftLeft, BitVec.getLsbD_ushiftRight]
  by_cases h : m ≤ j
  · have e : m + (j - m) = j := by omega
    rw [e]
    by_cases hj : j < 64
    · simp [h, hj]
    · have : x.getLsbD j = false := BitVec.getLsbD_of_ge x j (by omega)
      simp [this]
  · simp [h]
theorem hiW_word (x : BitVec 64) (k : Nat) : IntKind.u64.wrap ((x.toNat : Int) / 2 ^ k * 2 ^ k) = ((hiW x k).toNat : Int) := by
  unfold hiW
  rw [BitVec.toNat_shiftLeft, BitVec.toNat_ushiftRight, Nat.shiftLeft_eq, Nat.shiftRight_eq_div_pow]
  simp only [IntKind.wrap, IntKind.bits, IntKind.signed]
  simp
theorem sub_one_word (x : BitVec 64) : IntKind.u64.wrap ((x.toNat : Int) - 1) = ((x - 1#64).toNat : Int) := by
  have := x.isLt
  rw [BitVec.toNat_sub]
  simp only [IntKind.wrap, IntKind.bits, IntKind.signed]
  simp
  omega
/-- The number of a word's lowest bit. -/
def tz (x : BitVec 64) : Nat := Lib.ctz 64 x.toNat
theorem tz_form (x : BitVec 64) (h : x ≠ 0#64) : tz x < 64 ∧ ∃ m, x.toNat = 2 ^ tz x * (2 * m + 1) := by
  have hx : x.toNat ≠ 0 := fun e => h (BitVec.eq_of_toNat_eq (by simpa using e))
  obtain ⟨m, hm, hk⟩ := Lib.ctzFrom_spec 64 x.toNat (by omega) x.isLt
  have e : tz x = Lib.ctzFrom 64 x.toNat := by simp [tz, Lib.ctz, hx]
  rw [e]
  exact ⟨hk, m, hm⟩
theorem tz_lt (x : BitVec 64) (h : x ≠ 0#64) : tz x < 64 := (tz_form x h).1
theorem tz_bit (x : BitVec 64) (h : x ≠ 0#64) : x.getLsbD (tz x) = true := by
  obtain ⟨_, m, hm⟩ := tz_form x h
  show x.toNat.testBit (tz x) = true
  rw [hm, Nat.mul_comm, Nat.testBit_mul_two_pow]
  simp [Nat.testBit_zero]
theorem tz_low (x : BitVec 64) (h : x ≠ 0#64) (j : Nat) (hj : j < tz x) : x.getLsbD j = false := by
  obtain ⟨_, m, hm⟩ := tz_form x h
  show x.toNat.testBit j = false
  rw [hm, Nat.mul_comm, Nat.testBit_mul_two_pow]
  simp; omega
theorem tz_clear (x : BitVec 64) (h : x ≠ 0#64) (j : Nat) : (x &&& (x - 1#64)).getLsbD j = (x.getLsbD j && decide (tz x < j)) := by
  obtain ⟨hk, m, hm⟩ := tz_form x h
  have hp : 0 < 2 ^ tz x := Nat.two_pow_pos _
  have hlt := x.isLt
  have h1 : (x - 1#64).toNat = 2 ^ tz x * (2 * m) + (2 ^ tz x - 1) := by
    rw [BitVec.toNat_sub]
    have e1 : x.toNat = 2 ^ tz x * (2 * m) + 2 ^ tz x := by rw [hm, Nat.mul_add, Nat.mul_one]
    simp
    omega
  have e2 : x.toNat = 2 ^ tz x * (2 * m + 1) + 0 := by omega
  rw [BitVec.getLsbD_and]
  show (x.toNat.testBit j && (x - 1#64).toNat.testBit j) = (x.toNat.testBit j && decide (tz x < j))
  rw [h1, e2, Nat.testBit_two_pow_mul_add _ (by omega), Nat.testBit_two_pow_mul_add _ (by omega)]
  by_cases hj : j < tz x
  · simp [hj]
  · simp only [hj, if_false]
    by_cases he : j = tz x
    · subst he; simp [Nat.testBit_zero]
    · have : tz x < j := by omega
      obtain ⟨i, hi⟩ : ∃ i, j - tz x = i + 1 := ⟨j - tz x - 1, by omega⟩
      rw [hi, Nat.testBit_succ, Nat.testBit_succ]
      have d1 : (2 * m + 1) / 2 = m := by omega
      have d2 : (2 * m) / 2 = m := by omega
      simp [d1, d2, this]
/-- The bytes of s from f on, below n, ascending. -/
def upto (s : WSet) (f n : Nat) : List Nat := (List.range n).filter fun b => decide (f ≤ b) && s.has b
theorem upto_none (s : WSet) (f n k : Nat) (h : ∀ j, n ≤ j → j < n + k → (decide (f ≤ j) && s.has j) = false) : upto s f (n + k) = upto s f n := by
  induction k with
  | zero => rfl
  | succ k ih =>
    rw [← ih (fun j h1 h2 => h j h1 (by omega)), ← Nat.add_assoc]
    unfold upto
    rw [List.range_succ, List.filter_append]
    have := h (n + k) (by omega) (by omega)
    simp [this]
theorem upto_snoc (s : WSet) (f n : Nat) (h : (decide (f ≤ n) && s.has n) = true) : upto s f (n + 1) = upto s f n ++ [n] := by
  unfold upto
  rw [List.range_succ, List.filter_append]
  simp [h]
theorem has_word (s : WSet) (i j : Nat) (hj : j < 64) : s.has (64 * i + j) = (s.w i).getLsbD j := by
  unfold WSet.has
  have e1 : (64 * i + j) / 64 = i := by omega
  have e2 : (64 * i + j) % 64 = j := by omega
  rw [e1, e2]
/-- A round of the inner loop: the lowest bit that is left. -/
theorem upto_step (s : WSet) (f i m : Nat) (hf : f ≤ 64 * i + m) (hm : m ≤ 64) (h : hiW (s.w i) m ≠ 0#64) :
    m ≤ tz (hiW (s.w i) m) ∧ tz (hiW (s.w i) m) < 64 ∧ upto s f (64 * i + tz (hiW (s.w i) m) + 1) = upto s f (64 * i + m) ++ [64 * i + tz (hiW (s.w i) m)] ∧
    (hiW (s.w i) m &&& (hiW (s.w i) m - 1#64)) = hiW (s.w i) (tz (hiW (s.w i) m) + 1) := by
  have h1 := tz_lt _ h
  have h2 := tz_bit _ h
  have h3 := tz_low _ h
  have h4 := tz_clear _ h
  generalize ht : tz (hiW (s.w i) m) = t at *
  rw [hiW_bit] at h2
  have hmt : m ≤ t := by simp at h2; omega
  have hb : (s.w i).getLsbD t = true := by simp at h2; exact h2.2
  refine ⟨hmt, h1, ?_, ?_⟩
  · rw [upto_snoc s f (64 * i + t) (by rw [has_word _ _ _ h1, hb]; simp; omega)]
    congr 1
    obtain ⟨d, rfl⟩ : ∃ d, t = m + d := ⟨t - m, by omega⟩
    rw [← Nat.add_assoc]
    apply upto_none
    intro j hj1 hj2
    obtain ⟨e, rfl⟩ : ∃ e, j = 64 * i + e := ⟨j - 64 * i, by omega⟩
    have := h3 e (by omega)
    rw [hiW_bit] at this
    rw [has_word _ _ _ (by omega)]
    have hme : m ≤ e := by omega
    simp [hme] at this
    simp [this]
  · apply BitVec.eq_of_getLsbD_eq
    intro j hj
    rw [h4, hiW_bit, hiW_bit]
    by_cases a : t < j
    · have b : m ≤ j := by omega
      have c : t + 1 ≤ j := by omega
      simp [a, b, c]
    · have c : ¬ t + 1 ≤ j := by omega
      simp [a, c]
/-- The inner loop's end: no bit is left. -/
theorem upto_end (s : WSet) (f i m : Nat) (hm : m ≤ 64) (h : hiW (s.w i) m = 0#64) : upto s f (64 * (i + 1)) = upto s f (64 * i + m) := by
  have e : 64 * (i + 1) = 64 * i + m + (64 - m) := by omega
  rw [e]
  apply upto_none
  intro j hj1 hj2
  obtain ⟨t, rfl⟩ : ∃ t, j = 64 * i + t := ⟨j - 64 * i, by omega⟩
  have := hiW_bit (s.w i) m t
  rw [h] at this
  have hmt : m ≤ t := by omega
  rw [has_word _ _ _ (by omega)]
  simp [hmt] at this
  simp [this]
/-- The inner loop's start. -/
theorem upto_start (s : WSet) (f i : Nat) : upto s f (64 * i + min (f - 64 * i) 64) = upto s f (64 * i) := by
  apply upto_none
  intro j hj1 hj2
  have : ¬ f ≤ j := by omega
  simp [this]
theorem hiW_min (x : BitVec 64) (k : Nat) : hiW x (min k 64) = hiW x k := by
  apply BitVec.eq_of_getLsbD_eq
  intro j hj
  rw [hiW_bit, hiW_bit]
  by_cases h : k ≤ j
  · have : min k 64 ≤ j := by omega
    simp [h, this]
  · have : ¬ min k 64 ≤ j := by omega
    simp [h, this]
theorem hiW_zero (x : BitVec 64) : hiW x 0 = x := by
  apply BitVec.eq_of_getLsbD_eq
  intro j hj
  rw [hiW_bit]; simp
theorem hiW_64 (x : BitVec 64) : hiW x 64 = 0#64 := by
  apply BitVec.eq_of_getLsbD_eq
  intro j hj
  rw [hiW_bit]; simp; omega
theorem clear_lt (x : BitVec 64) (h : x ≠ 0#64) : (x &&& (x - 1#64)).toNat < x.toNat := by
  have hx : x.toNat ≠ 0 := fun e => h (BitVec.eq_of_toNat_eq (by simpa using e))
  have hlt := x.isLt
  have h1 : (x - 1#64).toNat = x.toNat - 1 := by rw [BitVec.toNat_sub]; simp; omega
  have h2 : (x &&& (x - 1#64)).toNat ≤ (x - 1#64).toNat := by rw [BitVec.toNat_and]; exact Nat.and_le_right
  omega
theorem upto_length (s : WSet) (f n : Nat) : (upto s f n).length ≤ n := by
  unfold upto
  exact Nat.le_trans (List.length_filter_le _ _) (by simp)
theorem upto_prefix (s : WSet) (f n k : Nat) : ∃ l, upto s f n ++ l = upto s f (n + k) := by
  induction k with
  | zero => exact ⟨[], by simp⟩
  | succ k ih =>
    obtain ⟨l, hl⟩ := ih
    by_cases h : (decide (f ≤ n + k) && s.has (n + k)) = true
    · exact ⟨l ++ [n + k], by rw [← Nat.add_assoc, upto_snoc _ _ _ h, ← hl]; simp⟩
    · refine ⟨l, ?_⟩
      rw [hl, ← Nat.add_assoc]
      symm
      apply upto_none s f (n + k) 1
      intro j h1 h2
      obtain rfl : j = n + k := by omega
      simpa using h
end Go.Proofs.YtbpnhiejmkeclaaDoor
