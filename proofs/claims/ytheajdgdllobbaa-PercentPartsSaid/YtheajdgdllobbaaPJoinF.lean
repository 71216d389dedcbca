/-
  Decodings of strings one behind the other are the decoding of both; Go's sum of two strings. No condition.
-/
import Derived.Test.YtheajdgdllobbaaPBackF
import Derived.Laws.Entries
namespace Go.Proofs.Ytheajdgdllobbaa
open Go.RowKit
theorem ba_append (a b : List UInt8) : ByteArray.mk a.toArray ++ ByteArray.mk b.toArray = ⟨(a ++ b).toArray⟩ := by
  apply ByteArray.ext
  rw [ByteArray.data_append]
  simp
/-- A length that a string may have. -/
def Small (n : Nat) : Prop := n ≤ 9223372036854775807
theorem str_add {P : Program} {w : World} (a b : List UInt8) (h : Small (a.length + b.length)) : (Op.stringOp .add ⟨a.toArray⟩ ⟨b.toArray⟩).run P w = .ok (.string ⟨(a ++ b).toArray⟩) w := by
  rw [← ba_append]
  exact run_string_add_sum _ _ _ h
theorem decF_shift : ∀ (k : Nat) (l : List UInt8) (i j : Nat) (t : List UInt8), decF k l i = .ok t → decF k l j = .ok t
  | k, [], i, j, t, h => by
    have h2 : ∀ i, decF k [] i = .ok [] := fun i => by cases k <;> rfl
    rw [h2] at h ⊢
    exact h
  | 0, _ :: _, i, j, t, h => by simp [decF] at h
  | k + 1, c :: r, i, j, t, h => by
    rw [decF] at h ⊢
    split at h
    · rename_i he
      rw [if_pos he]
      cases hd : decF k ((c :: r).drop 3) (i + 3) with
      | error e => rw [hd] at h; cases h
      | ok t' =>
        rw [decF_shift k _ _ (j + 3) _ hd]
        rw [hd] at h
        exact h
    · rename_i he
      rw [if_neg he]
      split at h
      · cases h
      · rename_i hc
        rw [if_neg hc]
        cases hd : decF k r (i + 1) with
        | error e => rw [hd] at h; cases h
        | ok t' =>
          rw [decF_shift k _ _ (j + 1) _ hd]
          rw [hd] at h
          exact h
theorem dec_app {y b : List UInt8} (hy : ∀ i, decL y i = .ok b) : ∀ (k : Nat) (x : List UInt8) (i : Nat) (a : List UInt8), decF k x i = .ok a → decL (x ++ y) i = .ok (a ++ b)
  | k, [], i, a, h => by
    have h2 : decF k [] i = .ok [] := by cases k <;> rfl
    rw [h2] at h
    injection h with h
    rw [← h]
    exact hy i
  | 0, _ :: _, _, _, h => by simp [decF] at h
  | k + 1, c :: r, i, a, h => by
    rw [decF] at h
    split at h
    · rename_i he
      match r, he with
      | u :: v :: r2, he =>
        have he2 : escB (c :: u :: v :: (r2 ++ y)) = true := he
        cases hd : decF k ((c :: u :: v :: r2).drop 3) (i + 3) with
        | error e => rw [hd] at h; cases h
        | ok t' =>
          rw [hd] at h
          injection h with h
          have ih := dec_app hy k r2 (i + 3) t' hd
          show decL (c :: u :: v :: (r2 ++ y)) i = _
          rw [decL_esc i he2]
          show (decL (r2 ++ y) (i + 3)).map _ = _
          rw [ih, ← h]
          rfl
    · split at h
      · cases h
      · rename_i hc
        cases hd : decF k r (i + 1) with
        | error e => rw [hd] at h; cases h
        | ok t' =>
          rw [hd] at h
          injection h with h
          have ih := dec_app hy k r (i + 1) t' hd
          show decL (c :: (r ++ y)) i = _
          rw [decL_plain i hc, ih, ← h]
          rfl
theorem dec_both {x y a b : List UInt8} (hx : decL x 0 = .ok a) (hy : decL y 0 = .ok b) : decL (x ++ y) 0 = .ok (a ++ b) :=
  dec_app (fun i => decF_shift _ _ _ i _ hy) _ x 0 a hx
end Go.Proofs.Ytheajdgdllobbaa
