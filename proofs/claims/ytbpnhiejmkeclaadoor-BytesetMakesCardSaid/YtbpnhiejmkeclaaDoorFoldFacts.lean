/-
  What folding a set of bytes does, bit by bit: a letter in one case brings the same letter in the other case. No condition.
-/
import Derived.Test.YtbpnhiejmkeclaaDoorSets
namespace Go.Proofs.YtbpnhiejmkeclaaDoor
open Go.RowKit
theorem mask_bit : ∀ i, i < 64 → (134217726#64).getLsbD i = decide (1 ≤ i ∧ i ≤ 26) := by decide
/-- The folded word. -/
def foldB (x : BitVec 64) : BitVec 64 := x ||| (foldW x ||| foldW x <<< 32)
theorem foldW_bit (x : BitVec 64) (i : Nat) (hi : i < 64) : (foldW x).getLsbD i = (decide (1 ≤ i ∧ i ≤ 26) && (x.getLsbD i || x.getLsbD (32 + i))) := by
  simp only [foldW, BitVec.getLsbD_or, BitVec.getLsbD_and, BitVec.getLsbD_ushiftRight, mask_bit i hi]
  cases x.getLsbD i <;> cases x.getLsbD (32 + i) <;> simp
theorem foldB_bit (x : BitVec 64) (i : Nat) (hi : i < 64) : (foldB x).getLsbD i = (x.getLsbD i || (decide (1 ≤ i ∧ i ≤ 26) && x.getLsbD (i + 32)) || (decide (33 ≤ i ∧ i ≤ 58) && x.getLsbD (i - 32))) := by
  simp only [foldB, BitVec.getLsbD_or, BitVec.getLsbD_shiftLeft, foldW_bit x i hi]
  by_cases h : i < 32
  · have h2 : ¬ (33 ≤ i ∧ i ≤ 58) := by omega
    rw [Nat.add_comm 32 i]
    simp only [hi, h, h2, decide_true, decide_false, Bool.not_true, Bool.and_false, Bool.false_and, Bool.or_false]
    cases x.getLsbD i <;> simp
  · have h1 : ¬ (1 ≤ i ∧ i ≤ 26) := by omega
    have h3 : (1 ≤ i - 32 ∧ i - 32 ≤ 26) ↔ (33 ≤ i ∧ i ≤ 58) := by omega
    rw [foldW_bit x (i - 32) (by omega), show 32 + (i - 32) = i by omega]
    simp only [hi, h, h1, h3, decide_true, decide_false, Bool.not_false, Bool.and_true, Bool.true_and, Bool.false_and, Bool.false_or, Bool.or_false]
    cases x.getLsbD i <;> cases x.getLsbD (i - 32) <;> simp
theorem ext_word {x y : BitVec 64} (h : ∀ i, i < 64 → x.getLsbD i = y.getLsbD i) : x = y := BitVec.eq_of_getLsbD_eq fun i hi => h i hi
theorem foldB_fold (x : BitVec 64) : foldB (foldB x) = foldB x := by
  refine ext_word fun i hi => ?_
  rw [foldB_bit _ i hi, foldB_bit x i hi]
  by_cases h1 : 1 ≤ i ∧ i ≤ 26
  · have h2 : ¬ (33 ≤ i ∧ i ≤ 58) := by omega
    rw [foldB_bit x (i + 32) (by omega)]
    have h3 : ¬ (1 ≤ i + 32 ∧ i + 32 ≤ 26) := by omega
    have h4 : 33 ≤ i + 32 ∧ i + 32 ≤ 58 := by omega
    simp only [h1, h2, h3, h4, and_self, decide_true, decide_false, Bool.true_and, Bool.false_and, Bool.or_false, Nat.add_sub_cancel]
    cases x.getLsbD i <;> cases x.getLsbD (i + 32) <;> rfl
  · by_cases h2 : 33 ≤ i ∧ i ≤ 58
    · rw [foldB_bit x (i - 32) (by omega)]
      have h3 : 1 ≤ i - 32 ∧ i - 32 ≤ 26 := by omega
      have h4 : ¬ (33 ≤ i - 32 ∧ i - 32 ≤ 58) := by omega
      simp only [h1, h2, h3, h4, and_self, decide_true, decide_false, Bool.true_and, Bool.false_and, Bool.or_false, Nat.sub_add_cancel (show 32 ≤ i by omega)]
      cases x.getLsbD i <;> cases x.getLsbD (i - 32) <;> rfl
    · simp only [h1, h2, decide_false, Bool.false_and, Bool.or_false]
theorem foldB_or (x y : BitVec 64) : foldB (x ||| y) = foldB x ||| foldB y := by
  refine ext_word fun i hi => ?_
  rw [BitVec.getLsbD_or, foldB_bit _ i hi, foldB_bit x i hi, foldB_bit y i hi]
  simp only [BitVec.getLsbD_or]
  exact (by decide : ∀ p q a b c d e f : Bool, ((a || b) || (p && (c || d)) || (q && (e || f))) = ((a || (p && c) || (q && e)) || (b || (p && d) || (q && f)))) _ _ _ _ _ _ _ _
theorem or_foldB (x : BitVec 64) : foldB x ||| x = foldB x := by
  refine ext_word fun i hi => ?_
  rw [BitVec.getLsbD_or, foldB_bit _ i hi]
  cases x.getLsbD i <;> simp
theorem fold_fold (s : WSet) : s.fold.fold = s.fold := by
  have h := foldB_fold s.b
  simp only [foldB] at h
  simp only [WSet.fold, h]
theorem fold_or_self (s : WSet) : s.fold.or s = s.fold := by
  have h := or_foldB s.b
  simp only [foldB] at h
  simp only [WSet.fold, WSet.or, h, BitVec.or_self]
theorem fold_or (s t : WSet) : (s.or t).fold = s.fold.or t.fold := by
  have h := foldB_or s.b t.b
  simp only [foldB] at h
  simp only [WSet.fold, WSet.or, h]
/-- o is the byte b in the other case, if b is a letter. -/
def OtherOf (b o : Nat) : Prop := (97 ≤ b ∧ b ≤ 122 ∧ o = b - 32) ∨ (65 ≤ b ∧ b ≤ 90 ∧ o = b + 32) ∨ ((b < 65 ∨ (90 < b ∧ b < 97) ∨ 122 < b) ∧ o = b)
theorem has_fold (s : WSet) (b o : Nat) (hb : b < 256) (h : OtherOf b o) : s.fold.has b = (s.has b || s.has o) := by
  have hw : b / 64 = 0 ∨ b / 64 = 1 ∨ b / 64 = 2 ∨ b / 64 = 3 := by omega
  have e1 : s.fold.w 1 = foldB s.b := rfl
  have key : b / 64 = 1 → s.fold.has b = (s.b.getLsbD (b % 64) || (decide (1 ≤ b % 64 ∧ b % 64 ≤ 26) && s.b.getLsbD (b % 64 + 32)) || (decide (33 ≤ b % 64 ∧ b % 64 ≤ 58) && s.b.getLsbD (b % 64 - 32))) := fun k => by
    unfold WSet.has
    rw [k, e1, foldB_bit _ _ (Nat.mod_lt _ (by omega))]
  have self : ∀ n, n / 64 = 1 → s.has n = s.b.getLsbD (n % 64) := fun n k => by
    unfold WSet.has
    rw [k]
    rfl
  rcases h with ⟨h1, h2, rfl⟩ | ⟨h1, h2, rfl⟩ | ⟨h1, rfl⟩
  · rw [key (by omega), self b (by omega), self (b - 32) (by omega)]
    have h3 : ¬ (1 ≤ b % 64 ∧ b % 64 ≤ 26) := by omega
    have h4 : 33 ≤ b % 64 ∧ b % 64 ≤ 58 := by omega
    rw [show (b - 32) % 64 = b % 64 - 32 by omega]
    simp [h3, h4]
  · rw [key (by omega), self b (by omega), self (b + 32) (by omega)]
    have h3 : 1 ≤ b % 64 ∧ b % 64 ≤ 26 := by omega
    have h4 : ¬ (33 ≤ b % 64 ∧ b % 64 ≤ 58) := by omega
    rw [show (b + 32) % 64 = b % 64 + 32 by omega]
    simp [h3, h4]
  · rw [Bool.or_self]
    rcases hw with k | k | k | k
    · unfold WSet.has; rw [k]; rfl
    · rw [key k, self _ k]
      have h3 : ¬ (1 ≤ o % 64 ∧ o % 64 ≤ 26) := by omega
      have h4 : ¬ (33 ≤ o % 64 ∧ o % 64 ≤ 58) := by omega
      simp [h3, h4]
    · unfold WSet.has; rw [k]; rfl
    · unfold WSet.has; rw [k]; rfl
end Go.Proofs.YtbpnhiejmkeclaaDoor
