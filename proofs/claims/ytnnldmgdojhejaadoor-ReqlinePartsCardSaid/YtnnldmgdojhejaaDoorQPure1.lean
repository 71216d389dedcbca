/-
  Lines, purely: what is too long stays so, what isn't begins so.
-/
import Derived.Test.YtnnldmgdojhejaaDoorQRef3
namespace Go.Proofs.YtnnldmgdojhejaaDoor
open Go.RowKit
theorem spN_append (l x : List UInt8) : spN (l ++ x) = match spN l with
    | some i => some i
    | none => (spN x).map (· + l.length) := by
  induction l with
  | nil => cases h : spN x <;> simp [spN, h]
  | cons c r ih =>
    rw [List.cons_append, spN, spN, ih]
    by_cases h : c.toNat = 32
    · simp [h]
    · rw [if_neg h, if_neg h]
      cases spN r with
      | some i => rfl
      | none =>
        cases spN x with
        | none => rfl
        | some j =>
          simp
          omega
theorem spN_take (l : List UInt8) (k : Nat) : spN (l.take k) = match spN l with
    | some i => if i < k then some i else none
    | none => none := by
  induction l generalizing k with
  | nil => simp [spN]
  | cons c r ih =>
    cases k with
    | zero =>
      rw [List.take_zero]
      cases spN (c :: r) <;> simp [spN]
    | succ k =>
      rw [List.take_succ_cons, spN, spN, ih]
      by_cases h : c.toNat = 32
      · simp [h]
      · rw [if_neg h, if_neg h]
        cases spN r with
        | none => rfl
        | some i =>
          by_cases hi : i < k
          · simp [hi]
          · simp [hi]
def lng3 (q : List UInt8) (b : Nat) : Nat × Nat := if 512 < q.length then (400, b + 512) else (0, b + q.length)
def lng2 (r : List UInt8) (b : Nat) : Nat × Nat := match spN r with
  | none => if 1024 < r.length then (414, b + 1024) else (0, b + r.length)
  | some j => if 1024 < j then (414, b + 1024) else lng3 (r.drop (j + 1)) (b + j + 1)
def lng1 (l : List UInt8) : Nat × Nat := match spN l with
  | none => if 16 < l.length then (400, 16) else (0, l.length)
  | some i => if 16 < i then (400, 16) else lng2 (l.drop (i + 1)) (i + 1)
theorem prtR_one {l : List UInt8} (h : spN l = none) : prtR l = (l, [], [], 1) := by
  unfold prtR
  rw [h]
theorem prtR_two {l : List UInt8} {i : Nat} (h : spN l = some i) (h2 : spN (l.drop (i + 1)) = none) : prtR l = (l.take i, l.drop (i + 1), [], 2) := by
  unfold prtR
  rw [h]
  dsimp only
  rw [h2]
theorem prtR_three {l : List UInt8} {i j : Nat} (h : spN l = some i) (h2 : spN (l.drop (i + 1)) = some j) : prtR l = (l.take i, (l.drop (i + 1)).take j, l.drop (i + 1 + j + 1), 3) := by
  unfold prtR
  rw [h]
  dsimp only
  rw [h2]
theorem lngR_eq (l : List UInt8) : lngR l = lng1 l := by
  cases hi : spN l with
  | none =>
    unfold lngR lng1
    rw [prtR_one hi, hi]
    simp
  | some i =>
    have h1 := spN_lt hi
    cases hj : spN (l.drop (i + 1)) with
    | none =>
      unfold lngR lng1
      rw [prtR_two hi hj, hi]
      dsimp only
      unfold lng2
      rw [hj]
      dsimp only
      rw [List.length_take, show min i l.length = i by omega]
      by_cases c : 16 < i
      · rw [if_pos c, if_pos c]
      · rw [if_neg c, if_neg c]
        by_cases c2 : 1024 < (l.drop (i + 1)).length
        · rw [if_pos c2, if_pos c2]
        · rw [if_neg c2, if_neg c2, if_neg (by simp)]
          rw [List.length_drop]
          exact Prod.ext rfl (by dsimp only; omega)
    | some j =>
      have h2 := spN_lt hj
      rw [List.length_drop] at h2
      unfold lngR lng1
      rw [prtR_three hi hj, hi]
      dsimp only
      unfold lng2
      rw [hj]
      dsimp only
      rw [List.length_take, show min i l.length = i by omega, List.length_take, List.length_drop, show min j (l.length - (i + 1)) = j by omega]
      by_cases c : 16 < i
      · rw [if_pos c, if_pos c]
      · rw [if_neg c, if_neg c]
        by_cases c2 : 1024 < j
        · rw [if_pos c2, if_pos c2]
        · rw [if_neg c2, if_neg c2]
          unfold lng3
          rw [List.drop_drop, show i + 1 + (j + 1) = i + 1 + j + 1 by omega]
          by_cases c3 : 512 < (l.drop (i + 1 + j + 1)).length
          · rw [if_pos c3, if_pos c3]
          · rw [if_neg c3, if_neg c3, List.length_drop]
            exact Prod.ext rfl (by dsimp only; omega)
theorem lng3_app {q : List UInt8} {b : Nat} (h : (lng3 q b).1 ≠ 0) (x : List UInt8) : lng3 (q ++ x) b = lng3 q b ∧ (lng3 q b).2 < b + q.length := by
  unfold lng3 at h ⊢
  by_cases c : 512 < q.length
  · rw [if_pos c, if_pos (by rw [List.length_append]; omega)]
    exact ⟨rfl, by dsimp only; omega⟩
  · rw [if_neg c] at h
    exact absurd rfl h
theorem lng3_take {q : List UInt8} {b : Nat} (h : (lng3 q b).1 = 0) : (lng3 q b).2 = b + q.length ∧ ∀ k, k ≤ q.length → lng3 (q.take k) b = (0, b + k) := by
  unfold lng3 at h ⊢
  by_cases c : 512 < q.length
  · rw [if_pos c] at h
    cases h
  · rw [if_neg c]
    refine ⟨rfl, fun k hk => ?_⟩
    have : (q.take k).length = k := by rw [List.length_take]; omega
    rw [this, if_neg (by omega)]
theorem lng2_app {r : List UInt8} {b : Nat} (h : (lng2 r b).1 ≠ 0) (x : List UInt8) : lng2 (r ++ x) b = lng2 r b ∧ (lng2 r b).2 < b + r.length := by
  unfold lng2 at h ⊢
  rw [spN_append]
  cases hj : spN r with
  | none =>
    rw [hj] at h
    dsimp only at h ⊢
    by_cases c : 1024 < r.length
    · rw [if_pos c]
      refine ⟨?_, by dsimp only; omega⟩
      cases spN x with
      | none => exact if_pos (by rw [List.length_append]; omega)
      | some j => exact if_pos (by dsimp only; omega)
    · rw [if_neg c] at h
      exact absurd rfl h
  | some j =>
    have h2 := spN_lt hj
    rw [hj] at h
    dsimp only at h ⊢
    by_cases c : 1024 < j
    · rw [if_pos c, if_pos c]
      exact ⟨rfl, by dsimp only; omega⟩
    · rw [if_neg c] at h ⊢
      rw [if_neg c, List.drop_append_of_le_length (by omega)]
      have := lng3_app h x
      rw [List.length_drop] at this
      exact ⟨this.1, by omega⟩
theorem lng2_take {r : List UInt8} {b : Nat} (h : (lng2 r b).1 = 0) : (lng2 r b).2 = b + r.length ∧ ∀ k, k ≤ r.length → lng2 (r.take k) b = (0, b + k) := by
  unfold lng2 at h ⊢
  cases hj : spN r with
  | none =>
    rw [hj] at h
    dsimp only at h ⊢
    by_cases c : 1024 < r.length
    · rw [if_pos c] at h
      cases h
    · rw [if_neg c]
      refine ⟨rfl, fun k hk => ?_⟩
      have : (r.take k).length = k := by rw [List.length_take]; omega
      rw [spN_take, hj]
      dsimp only
      rw [this, if_neg (by omega)]
  | some j =>
    have h2 := spN_lt hj
    rw [hj] at h
    dsimp only at h ⊢
    by_cases c : 1024 < j
    · rw [if_pos c] at h
      cases h
    · rw [if_neg c] at h ⊢
      have := lng3_take h
      rw [List.length_drop] at this
      refine ⟨by omega, fun k hk => ?_⟩
      have hl : (r.take k).length = k := by rw [List.length_take]; omega
      rw [spN_take, hj]
      dsimp only
      by_cases hk2 : j < k
      · rw [if_pos hk2]
        dsimp only
        rw [if_neg c, List.drop_take, this.2 (k - (j + 1)) (by omega)]
        exact Prod.ext rfl (by dsimp only; omega)
      · rw [if_neg hk2]
        dsimp only
        rw [hl, if_neg (by omega)]
theorem lng_app {l : List UInt8} (h : (lngR l).1 ≠ 0) (x : List UInt8) : lngR (l ++ x) = lngR l ∧ (lngR l).2 < l.length := by
  rw [lngR_eq] at h ⊢
  rw [lngR_eq]
  unfold lng1 at h ⊢
  rw [spN_append]
  cases hj : spN l with
  | none =>
    rw [hj] at h
    dsimp only at h ⊢
    by_cases c : 16 < l.length
    · rw [if_pos c]
      refine ⟨?_, by dsimp only; omega⟩
      cases spN x with
      | none => exact if_pos (by rw [List.length_append]; omega)
      | some j => exact if_pos (by dsimp only; omega)
    · rw [if_neg c] at h
      exact absurd rfl h
  | some j =>
    have h2 := spN_lt hj
    rw [hj] at h
    dsimp only at h ⊢
    by_cases c : 16 < j
    · rw [if_pos c, if_pos c]
      exact ⟨rfl, by dsimp only; omega⟩
    · rw [if_neg c] at h ⊢
      rw [if_neg c, List.drop_append_of_le_length (by omega)]
      have := lng2_app h x
      rw [List.length_drop] at this
      exact ⟨this.1, by omega⟩
theorem lng_take {l : List UInt8} (h : (lngR l).1 = 0) : (lngR l).2 = l.length ∧ ∀ k, k ≤ l.length → lngR (l.take k) = (0, k) := by
  rw [lngR_eq] at h ⊢
  unfold lng1 at h ⊢
  cases hj : spN l with
  | none =>
    rw [hj] at h
    dsimp only at h ⊢
    by_cases c : 16 < l.length
    · rw [if_pos c] at h
      cases h
    · rw [if_neg c]
      refine ⟨rfl, fun k hk => ?_⟩
      have : (l.take k).length = k := by rw [List.length_take]; omega
      rw [lngR_eq]
      unfold lng1
      rw [spN_take, hj]
      dsimp only
      rw [this, if_neg (by omega)]
  | some j =>
    have h2 := spN_lt hj
    rw [hj] at h
    dsimp only at h ⊢
    by_cases c : 16 < j
    · rw [if_pos c] at h
      cases h
    · rw [if_neg c] at h ⊢
      have := lng2_take h
      rw [List.length_drop] at this
      refine ⟨by omega, fun k hk => ?_⟩
      have hl : (l.take k).length = k := by rw [List.length_take]; omega
      rw [lngR_eq]
      unfold lng1
      rw [spN_take, hj]
      dsimp only
      by_cases hk2 : j < k
      · rw [if_pos hk2]
        dsimp only
        rw [if_neg c, List.drop_take, this.2 (k - (j + 1)) (by omega)]
        exact Prod.ext rfl (by dsimp only; omega)
      · rw [if_neg hk2]
        dsimp only
        rw [hl, if_neg (by omega)]
end Go.Proofs.YtnnldmgdojhejaaDoor
