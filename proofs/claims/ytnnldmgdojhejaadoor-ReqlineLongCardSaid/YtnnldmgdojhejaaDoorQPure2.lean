/-
  Lines, purely: up to its fault a line can be mended, and what stands behind does not matter.
-/
import Derived.Test.YtnnldmgdojhejaaDoorQPure1
namespace Go.Proofs.YtnnldmgdojhejaaDoor
open Go.RowKit
theorem fb_some {l : List UInt8} : ∀ {f i p : Nat}, fb l f i = some p → i ≤ p ∧ p < i + f ∧ begR (prtR (l.take (p + 1))) = false ∧ ∀ j, i ≤ j → j < p → begR (prtR (l.take (j + 1))) = true
  | 0, i, p, h => by cases h
  | f + 1, i, p, h => by
    rw [fb] at h
    by_cases c : begR (prtR (l.take (i + 1))) = true
    · rw [if_pos c] at h
      have := fb_some h
      refine ⟨by omega, by omega, this.2.2.1, fun j h1 h2 => ?_⟩
      by_cases e : j = i
      · rw [e]
        exact c
      · exact this.2.2.2 j (by omega) h2
    · rw [if_neg c] at h
      cases h
      exact ⟨Nat.le_refl _, by omega, Bool.eq_false_iff.2 c, fun j h1 h2 => by omega⟩
theorem fb_none {l : List UInt8} : ∀ {f i : Nat}, fb l f i = none → ∀ j, i ≤ j → j < i + f → begR (prtR (l.take (j + 1))) = true
  | 0, i, h, j, h1, h2 => by omega
  | f + 1, i, h, j, h1, h2 => by
    rw [fb] at h
    by_cases c : begR (prtR (l.take (i + 1))) = true
    · rw [if_pos c] at h
      by_cases e : j = i
      · rw [e]
        exact c
      · exact fb_none h j (by omega) (by omega)
    · rw [if_neg c] at h
      cases h
theorem fb_is_none {l : List UInt8} : ∀ {f i : Nat}, (∀ j, i ≤ j → j < i + f → begR (prtR (l.take (j + 1))) = true) → fb l f i = none
  | 0, i, h => rfl
  | f + 1, i, h => by
    rw [fb, if_pos (h i (Nat.le_refl _) (by omega))]
    exact fb_is_none fun j h1 h2 => h j (by omega) (by omega)
theorem fb_is_some {l : List UInt8} {p : Nat} : ∀ {f i : Nat}, i ≤ p → p < i + f → begR (prtR (l.take (p + 1))) = false → (∀ j, i ≤ j → j < p → begR (prtR (l.take (j + 1))) = true) → fb l f i = some p
  | 0, i, h1, h2, h3, h4 => by omega
  | f + 1, i, h1, h2, h3, h4 => by
    rw [fb]
    by_cases e : i = p
    · rw [e, if_neg (by rw [h3]; decide)]
    · rw [if_pos (h4 i (Nat.le_refl _) (by omega))]
      exact fb_is_some (by omega) (by omega) h3 fun j h5 h6 => h4 j (by omega) h6
/-- What Parse answers where the line is not too long. -/
theorem prsR_short {l : List UInt8} (h : (lngR l).1 = 0) : prsR l = match badR l with
    | some i => (([], []), 400, i)
    | none => if (prtR l).2.2.1 = verT then (((prtR l).1, (prtR l).2.1), 0, l.length) else (([], []), 400, l.length) := if_neg (by omega)
theorem prsR_long {l : List UInt8} (h : (lngR l).1 ≠ 0) : prsR l = (([], []), lngR l) := if_pos h
theorem prs_at {l : List UInt8} : (prsR l).2.2 ≤ l.length := by
  by_cases h : (lngR l).1 = 0
  · rw [prsR_short h]
    cases hb : badR l with
    | some i =>
      have := fb_some hb
      dsimp only
      omega
    | none =>
      dsimp only
      split <;> exact Nat.le_refl _
  · rw [prsR_long h]
    have := (lng_app h []).2
    dsimp only
    omega
theorem prs_ok {l : List UInt8} (h0 : (prsR l).2.1 = 0) : (prsR l).2.2 = l.length ∧ (lngR l).1 = 0 ∧ badR l = none ∧ (prtR l).2.2.1 = verT ∧ prsR l = (((prtR l).1, (prtR l).2.1), 0, l.length) := by
  by_cases h : (lngR l).1 = 0
  · rw [prsR_short h] at h0 ⊢
    cases hb : badR l with
    | some i =>
      rw [hb] at h0
      cases h0
    | none =>
      rw [hb] at h0
      dsimp only at h0 ⊢
      by_cases hv : (prtR l).2.2.1 = verT
      · rw [if_pos hv]
        exact ⟨rfl, h, rfl, hv, rfl⟩
      · rw [if_neg hv] at h0
        cases h0
  · rw [prsR_long h] at h0
    exact absurd h0 h
theorem prs_st {l : List UInt8} (h : (lngR l).1 = 0) : (prsR l).2.1 = 400 ∨ (prsR l).2.1 = 0 := by
  rw [prsR_short h]
  split
  · exact .inl rfl
  · split
    · exact .inr rfl
    · exact .inl rfl
/-- Up to its fault a line can be mended. -/
theorem prs_take {l : List UInt8} (h : (lngR l).1 = 0) {k : Nat} (hk : k ≤ (prsR l).2.2) : ((prsR (l.take k)).2.1 = 400 ∨ (prsR (l.take k)).2.1 = 0) ∧ (prsR (l.take k)).2.2 = k := by
  have hkl : k ≤ l.length := Nat.le_trans hk prs_at
  have h1 : (lngR (l.take k)).1 = 0 := by rw [(lng_take h).2 k hkl]
  refine ⟨prs_st h1, ?_⟩
  have hl : (l.take k).length = k := by rw [List.length_take]; omega
  have hg : ∀ j, j < k → begR (prtR (l.take (j + 1))) = true := by
    intro j hj
    rw [prsR_short h] at hk
    cases hb : badR l with
    | some i =>
      rw [hb] at hk
      exact (fb_some hb).2.2.2 j (Nat.zero_le _) (by dsimp only at hk; omega)
    | none => exact fb_none hb j (Nat.zero_le _) (by omega)
  have hn : badR (l.take k) = none := by
    unfold badR
    refine fb_is_none fun j h2 h3 => ?_
    rw [List.take_take, show min (j + 1) k = j + 1 by omega]
    exact hg j (by omega)
  rw [prsR_short h1, hn]
  dsimp only
  split <;> exact hl
/-- What stands behind a fault does not matter. -/
theorem prs_app {l : List UInt8} (h1 : (prsR l).2.2 ≠ l.length) (x : List UInt8) (hx : (lngR l).1 = 0 → (lngR (l ++ x)).1 = 0) : prsR (l ++ x) = prsR l := by
  by_cases h : (lngR l).1 = 0
  · rw [prsR_short h] at h1 ⊢
    rw [prsR_short (hx h)]
    cases hb : badR l with
    | none =>
      rw [hb] at h1
      exfalso
      apply h1
      dsimp only
      split <;> rfl
    | some i =>
      have h2 := fb_some hb
      have : badR (l ++ x) = some i := by
        unfold badR
        refine fb_is_some (Nat.zero_le _) (by rw [List.length_append]; omega) ?_ fun j h3 h4 => ?_
        · rw [List.take_append_of_le_length (by omega)]
          exact h2.2.2.1
        · rw [List.take_append_of_le_length (by omega)]
          exact h2.2.2.2 j h3 h4
      rw [this]
  · have := (lng_app h x).1
    rw [prsR_long h, prsR_long (by rw [this]; exact h), this]
end Go.Proofs.YtnnldmgdojhejaaDoor
