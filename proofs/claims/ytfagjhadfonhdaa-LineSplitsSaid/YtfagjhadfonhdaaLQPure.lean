/-
  How far a chunk's next line reaches, seen through a window that is one byte longer than the line may be: the same as byte by byte.
-/
import Derived.Test.YtfagjhadfonhdaaLQLay
namespace Go.Proofs.Ytfagjhadfonhdaa
open Go.RowKit
/-- How many bytes are looked at. -/
def winN (n : Int) (T R : List UInt8) : Nat := min R.length ((n - T.length).toNat + 1)
/-- The splitter behind a window without a line feed. -/
def begS (n : Int) (X : List UInt8) : Sp := if n < (X.length : Int) then ⟨n, [], true⟩ else ⟨n, X, false⟩
theorem ix_cons (c : UInt8) (X : List UInt8) : Lib.indexByte (c :: X) 10 = if c.toNat = 10 then 0 else if Lib.indexByte X 10 = -1 then -1 else Lib.indexByte X 10 + 1 := by
  show (if c == 10 then (0 : Int) else if Lib.indexByte X 10 == -1 then -1 else Lib.indexByte X 10 + 1) = _
  by_cases h : c.toNat = 10
  · have : (c == 10) = true := by
      rw [beq_iff_eq]
      apply UInt8.toNat_inj.1
      rw [h]
      rfl
    rw [if_pos this, if_pos h]
  · have : ¬ (c == 10) = true := by
      rw [beq_iff_eq]
      intro e
      apply h
      rw [e]
      rfl
    rw [if_neg this, if_neg h]
    by_cases h2 : Lib.indexByte X 10 = -1
    · rw [h2]
      rfl
    · rw [if_neg (by rw [beq_iff_eq]; exact h2), if_neg h2]
theorem oneL_win (n : Int) : ∀ (R T : List UInt8), (T.length : Int) ≤ n →
    (∀ i : Nat, Lib.indexByte (R.take (winN n T R)) 10 = (i : Int) → oneL n T R = (⟨n, [], false⟩, lineR (T ++ R.take i), R.drop (i + 1), true) ∧ i < winN n T R) ∧
    (Lib.indexByte (R.take (winN n T R)) 10 = -1 → oneL n T R = (begS n (T ++ R.take (winN n T R)), zeroL, [], false))
  | [], T, hT => by
    refine ⟨fun i h => ?_, fun _ => ?_⟩
    · rw [List.take_nil] at h
      have : (-1 : Int) = (i : Int) := h
      omega
    · rw [List.take_nil, List.append_nil]
      unfold begS
      rw [if_neg (by omega)]
      rfl
  | c :: r, T, hT => by
    have hw : winN n T (c :: r) = min r.length (n - T.length).toNat + 1 := by
      unfold winN
      rw [List.length_cons]
      omega
    have hone : oneL n T (c :: r) = if c.toNat = 10 then (⟨n, [], false⟩, lineR T, r, true) else if (T.length : Int) = n then (⟨n, [], true⟩, ⟨[], false⟩, [], false) else oneL n (T ++ [c]) r := rfl
    rw [hw, List.take_succ_cons, ix_cons, hone]
    by_cases h : c.toNat = 10
    · rw [if_pos h, if_pos h]
      refine ⟨fun i hi => ?_, fun hi => by omega⟩
      obtain rfl : i = 0 := by omega
      exact ⟨by simp, by omega⟩
    · rw [if_neg h, if_neg h]
      by_cases h2 : (T.length : Int) = n
      · have hz : min r.length (n - T.length).toNat = 0 := by omega
        rw [if_pos h2, hz, List.take_zero]
        refine ⟨fun i hi => ?_, fun _ => ?_⟩
        · have : (-1 : Int) = (i : Int) := hi
          omega
        · unfold begS
          rw [if_pos (by simp; omega)]
          rfl
      · rw [if_neg h2]
        have hl : ((T ++ [c]).length : Int) ≤ n := by simp; omega
        have ih := oneL_win n r (T ++ [c]) hl
        have hw2 : winN n (T ++ [c]) r = min r.length (n - T.length).toNat := by
          unfold winN
          rw [List.length_append, List.length_singleton]
          omega
        rw [hw2] at ih
        obtain ⟨i1, i2⟩ := ih
        refine ⟨fun i hi => ?_, fun hi => ?_⟩
        · by_cases hx : Lib.indexByte (List.take (min r.length (n - T.length).toNat) r) 10 = -1
          · rw [if_pos hx] at hi
            omega
          · rw [if_neg hx] at hi
            have hge := Lib.indexByte_ge (List.take (min r.length (n - T.length).toNat) r) 10
            obtain ⟨j, rfl⟩ : ∃ j, i = j + 1 := ⟨i - 1, by omega⟩
            obtain ⟨e1, e2⟩ := i1 j (by omega)
            rw [e1]
            exact ⟨by simp, by omega⟩
        · by_cases hx : Lib.indexByte (List.take (min r.length (n - T.length).toNat) r) 10 = -1
          · rw [i2 hx]
            simp
          · rw [if_neg hx] at hi
            have hge := Lib.indexByte_ge (List.take (min r.length (n - T.length).toNat) r) 10
            omega
/-- The lines that end in the bytes, each with the offset behind its line feed. -/
def feedX (n : Int) : Nat → List UInt8 → List UInt8 → List (Nat × Ln)
  | _, _, [] => []
  | o, t, c :: r => if c.toNat = 10 then (o + 1, lineR t) :: feedX n (o + 1) [] r else if (t.length : Int) = n then [] else feedX n (o + 1) (t ++ [c]) r
theorem feedX_snd (n : Int) : ∀ (c t : List UInt8) (o : Nat), (feedX n o t c).map (·.2) = (feedL n t c).2
  | [], t, o => rfl
  | c :: r, t, o => by
    unfold feedX feedL
    split
    · rw [List.map_cons, feedX_snd n r [] (o + 1)]
    · split
      · rfl
      · exact feedX_snd n r (t ++ [c]) (o + 1)
theorem one_feedX (n : Int) : ∀ (c t : List UInt8) (o : Nat), ((oneL n t c).2.2.2 = true → feedX n o t c = (o + (c.length - (oneL n t c).2.2.1.length), (oneL n t c).2.1) :: feedX n (o + (c.length - (oneL n t c).2.2.1.length)) [] (oneL n t c).2.2.1) ∧ ((oneL n t c).2.2.2 = false → feedX n o t c = [])
  | [], t, o => ⟨fun h => by simp [oneL] at h, fun _ => rfl⟩
  | c :: r, t, o => by
    rw [show oneL n t (c :: r) = if c.toNat = 10 then (⟨n, [], false⟩, lineR t, r, true) else if (t.length : Int) = n then (⟨n, [], true⟩, ⟨[], false⟩, [], false) else oneL n (t ++ [c]) r from rfl]
    rw [show feedX n o t (c :: r) = if c.toNat = 10 then (o + 1, lineR t) :: feedX n (o + 1) [] r else if (t.length : Int) = n then [] else feedX n (o + 1) (t ++ [c]) r from rfl]
    by_cases h : c.toNat = 10
    · rw [if_pos h, if_pos h]
      refine ⟨fun _ => ?_, fun h => by simp at h⟩
      have : (c :: r).length - r.length = 1 := by simp
      dsimp only
      rw [this]
    · rw [if_neg h, if_neg h]
      by_cases h2 : (t.length : Int) = n
      · rw [if_pos h2, if_pos h2]
        exact ⟨fun h => by simp at h, fun _ => rfl⟩
      · rw [if_neg h2, if_neg h2]
        have ih := one_feedX n r (t ++ [c]) (o + 1)
        refine ⟨fun hx => ?_, ih.2⟩
        have hlt := ((one_feed n r (t ++ [c])).1 hx).2.1
        rw [ih.1 hx]
        have e : o + 1 + (r.length - (oneL n (t ++ [c]) r).2.2.1.length) = o + ((c :: r).length - (oneL n (t ++ [c]) r).2.2.1.length) := by
          rw [List.length_cons]
          omega
        rw [e]
end Go.Proofs.Ytfagjhadfonhdaa
