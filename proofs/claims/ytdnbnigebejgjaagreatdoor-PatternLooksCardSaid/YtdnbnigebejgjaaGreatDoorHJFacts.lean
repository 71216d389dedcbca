/-
  Sets by their bytes: which bytes are in a union, in a set with a byte more, in a span. No condition.
-/
import Derived.Test.YtdnbnigebejgjaaGreatDoorHRun
namespace Go.Proofs.YtdnbnigebejgjaaGreatDoor
open Go.RowKit
theorem has_empty (b : Nat) : WSet.empty.has b = false := by
  unfold WSet.has WSet.empty
  have : (WSet.mk 0 0 0 0).w (b / 64) = 0#64 := by
    unfold WSet.w
    split <;> rfl
  rw [this]; simp
theorem has_or (s t : WSet) (b : Nat) : (s.or t).has b = (s.has b || t.has b) := by
  have h : (s.or t).w (b / 64) = s.w (b / 64) ||| t.w (b / 64) := by
    unfold WSet.or WSet.w
    split <;> rfl
  unfold WSet.has
  rw [h, BitVec.getLsbD_or]
theorem w_set (s : WSet) (i j : Nat) (hi : i < 4) (hj : j < 4) (x : BitVec 64) : (s.set i x).w j = if j = i then x else s.w j := by
  match i, hi, j, hj with
  | 0, _, 0, _ | 0, _, 1, _ | 0, _, 2, _ | 0, _, 3, _ => rfl
  | 1, _, 0, _ | 1, _, 1, _ | 1, _, 2, _ | 1, _, 3, _ => rfl
  | 2, _, 0, _ | 2, _, 1, _ | 2, _, 2, _ | 2, _, 3, _ => rfl
  | 3, _, 0, _ | 3, _, 1, _ | 3, _, 2, _ | 3, _, 3, _ => rfl
theorem bit_one (n k : Nat) (hn : n < 64) (hk : k < 64) : (1#64 <<< n).getLsbD k = decide (k = n) := by
  rw [BitVec.getLsbD_shiftLeft]
  by_cases h : k = n
  · subst h; simp [hk]
  · by_cases h2 : k < n
    · simp [h2, h]
    · have : k - n ≠ 0 := by omega
      simp [h, h2, hk, this]
theorem has_add (s : WSet) (n b : Nat) (hn : n < 256) (hb : b < 256) : (s.add n).has b = (s.has b || decide (b = n)) := by
  unfold WSet.has WSet.add
  rw [w_set _ _ _ (by omega) (by omega)]
  by_cases h : b / 64 = n / 64
  · rw [if_pos h, BitVec.getLsbD_or, bit_one _ _ (by omega) (by omega), h]
    congr 1
    rw [decide_eq_decide]
    omega
  · rw [if_neg h]
    have : b ≠ n := by rintro rfl; exact h rfl
    simp [this]
theorem has_spanTo (lo : Nat) : ∀ (k b : Nat), lo + k ≤ 256 → b < 256 → (spanTo lo k).has b = decide (lo ≤ b ∧ b < lo + k)
  | 0, b, _, _ => by
    show WSet.empty.has b = _
    rw [has_empty]
    symm; rw [decide_eq_false_iff_not]; omega
  | k + 1, b, h, hb => by
    show ((spanTo lo k).add (lo + k)).has b = _
    rw [has_add _ _ _ (by omega) hb, has_spanTo lo k b (by omega) hb, ← Bool.decide_or]
    rw [decide_eq_decide]
    omega
theorem ext_has {s t : WSet} (h : ∀ b, b < 256 → s.has b = t.has b) : s = t := by
  have key : ∀ j, j < 4 → s.w j = t.w j := by
    intro j hj
    refine BitVec.eq_of_getLsbD_eq fun i hi => ?_
    have := h (64 * j + i) (by omega)
    unfold WSet.has at this
    rw [show (64 * j + i) / 64 = j by omega, show (64 * j + i) % 64 = i by omega] at this
    exact this
  obtain ⟨a, b, c, d⟩ := s
  obtain ⟨e, f, g, k⟩ := t
  have h0 : a = e := key 0 (by omega)
  have h1 : b = f := key 1 (by omega)
  have h2 : c = g := key 2 (by omega)
  have h3 : d = k := key 3 (by omega)
  rw [h0, h1, h2, h3]
end Go.Proofs.YtdnbnigebejgjaaGreatDoor
