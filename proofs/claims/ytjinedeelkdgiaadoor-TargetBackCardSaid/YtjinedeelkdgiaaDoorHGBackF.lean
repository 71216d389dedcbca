/-
  Encodings say what was encoded; decodings of strings one behind the other are the decoding of both. No condition.
-/
import Derived.Test.YtjinedeelkdgiaaDoorHGEnc
import Derived.Test.YtjinedeelkdgiaaDoorHGDec
namespace Go.Proofs.YtjinedeelkdgiaaDoor
open Go.RowKit
theorem hexU_hex : ∀ n : Fin 16, hexP (hexU n.val).toNat = (n.val, true) := by decide +kernel
theorem hexU_is (n : Nat) (h : n < 16) : isHex (hexU n) = true ∧ hexB (hexU n) = n := by
  have := hexU_hex ⟨n, h⟩
  simp only at this
  unfold isHex hexB
  rw [this]
  exact ⟨rfl, rfl⟩
theorem dec_enc (s : WSet) : ∀ (l : List UInt8) (i : Nat), decL (encL s l) i = .ok l
  | [], _ => rfl
  | b :: l, i => by
    have e : encL s (b :: l) = enc1 s b ++ encL s l := rfl
    rw [e]
    unfold enc1
    split
    · rename_i h
      have hb : b ≠ 37 := by
        have := (Bool.and_eq_true_iff.1 h).1
        simpa using this
      show decL (b :: encL s l) i = _
      rw [decL_plain i hb, dec_enc s l]
      rfl
    · have hl := UInt8.toNat_lt b
      have h1 := hexU_is (b.toNat / 16) (by omega)
      have h2 := hexU_is (b.toNat % 16) (by omega)
      have he : escB (37 :: hexU (b.toNat / 16) :: hexU (b.toNat % 16) :: encL s l) = true := by
        show ((37 : UInt8) == 37 && isHex _ && isHex _) = true
        rw [h1.1, h2.1]; rfl
      have hv : escV (37 :: hexU (b.toNat / 16) :: hexU (b.toNat % 16) :: encL s l) = b := by
        show UInt8.ofNat (16 * hexB _ + hexB _) = b
        rw [h1.2, h2.2, show 16 * (b.toNat / 16) + b.toNat % 16 = b.toNat by omega]
        exact UInt8.ofNat_toNat
      show decL (37 :: hexU (b.toNat / 16) :: hexU (b.toNat % 16) :: encL s l) i = _
      rw [decL_esc i he, hv]
      show (decL (encL s l) (i + 3)).map _ = _
      rw [dec_enc s l]
      rfl
/-- Is the byte written as an escape? -/
theorem encL_app (s : WSet) (x y : List UInt8) : encL s (x ++ y) = encL s x ++ encL s y := by
  unfold encL; rw [List.flatMap_append]
theorem decF_shift : ∀ (k : Nat) (l : List UInt8) (i j : Nat) (t : List UInt8), decF k l i = .ok t → decF k l j = .ok t
  | k, [], i, j, t, h => by
    have h2 : ∀ i, decF k [] i = .ok [] := fun i => by cases k <;> rfl
    rw [h2] at h ⊢
    exact h
  | 0, _ :: _, i, j, t, h => by simp [decF] at h
  | k + 1, c :: r, i, j, t, h => by
    rw [decF] at h ⊢
    split at h
    · rename_i he
      rw [if_pos he]
      cases hd : decF k ((c :: r).drop 3) (i + 3) with
      | error e => rw [hd] at h; cases h
      | ok t' =>
        rw [decF_shift k _ _ (j + 3) _ hd]
        rw [hd] at h
        exact h
    · rename_i he
      rw [if_neg he]
      split at h
      · cases h
      · rename_i hc
        rw [if_neg hc]
        cases hd : decF k r (i + 1) with
        | error e => rw [hd] at h; cases h
        | ok t' =>
          rw [decF_shift k _ _ (j + 1) _ hd]
          rw [hd] at h
          exact h
theorem dec_app {y b : List UInt8} (hy : ∀ i, decL y i = .ok b) : ∀ (k : Nat) (x : List UInt8) (i : Nat) (a : List UInt8), decF k x i = .ok a → decL (x ++ y) i = .ok (a ++ b)
  | k, [], i, a, h => by
    have h2 : decF k [] i = .ok [] := by cases k <;> rfl
    rw [h2] at h
    injection h with h
    rw [← h]
    exact hy i
  | 0, _ :: _, _, _, h => by simp [decF] at h
  | k + 1, c :: r, i, a, h => by
    rw [decF] at h
    split at h
    · rename_i he
      match r, he with
      | u :: v :: r2, he =>
        have he2 : escB (c :: u :: v :: (r2 ++ y)) = true := he
        cases hd : decF k ((c :: u :: v :: r2).drop 3) (i + 3) with
        | error e => rw [hd] at h; cases h
        | ok t' =>
          rw [hd] at h
          injection h with h
          have ih := dec_app hy k r2 (i + 3) t' hd
          show decL (c :: u :: v :: (r2 ++ y)) i = _
          rw [decL_esc i he2]
          show (decL (r2 ++ y) (i + 3)).map _ = _
          rw [ih, ← h]
          rfl
    · split at h
      · cases h
      · rename_i hc
        cases hd : decF k r (i + 1) with
        | error e => rw [hd] at h; cases h
        | ok t' =>
          rw [hd] at h
          injection h with h
          have ih := dec_app hy k r (i + 1) t' hd
          show decL (c :: (r ++ y)) i = _
          rw [decL_plain i hc, ih, ← h]
          rfl
theorem dec_both {x y a b : List UInt8} (hx : decL x 0 = .ok a) (hy : decL y 0 = .ok b) : decL (x ++ y) 0 = .ok (a ++ b) :=
  dec_app (fun i => decF_shift _ _ _ i _ hy) _ x 0 a hx
end Go.Proofs.YtjinedeelkdgiaaDoor
