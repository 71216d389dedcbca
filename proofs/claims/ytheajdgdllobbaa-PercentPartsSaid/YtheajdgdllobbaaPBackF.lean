/-
  Encodings say what was encoded; how long they are; what comes of strings one behind the other. No condition.
-/
import Derived.Test.YtheajdgdllobbaaPAwake
namespace Go.Proofs.Ytheajdgdllobbaa
open Go.RowKit
theorem hexU_hex : ∀ n : Fin 16, hexP (hexU n.val).toNat = (n.val, true) := by decide +kernel
theorem hexU_is (n : Nat) (h : n < 16) : isHex (hexU n) = true ∧ hexB (hexU n) = n := by
  have := hexU_hex ⟨n, h⟩
  simp only at this
  unfold isHex hexB
  rw [this]
  exact ⟨rfl, rfl⟩
theorem dec_enc (s : WSet) : ∀ (l : List UInt8) (i : Nat), decL (encL s l) i = .ok l
  | [], _ => rfl
  | b :: l, i => by
    have e : encL s (b :: l) = enc1 s b ++ encL s l := rfl
    rw [e]
    unfold enc1
    split
    · rename_i h
      have hb : b ≠ 37 := by
        have := (Bool.and_eq_true_iff.1 h).1
        simpa using this
      show decL (b :: encL s l) i = _
      rw [decL_plain i hb, dec_enc s l]
      rfl
    · have hl := UInt8.toNat_lt b
      have h1 := hexU_is (b.toNat / 16) (by omega)
      have h2 := hexU_is (b.toNat % 16) (by omega)
      have he : escB (37 :: hexU (b.toNat / 16) :: hexU (b.toNat % 16) :: encL s l) = true := by
        show ((37 : UInt8) == 37 && isHex _ && isHex _) = true
        rw [h1.1, h2.1]; rfl
      have hv : escV (37 :: hexU (b.toNat / 16) :: hexU (b.toNat % 16) :: encL s l) = b := by
        show UInt8.ofNat (16 * hexB _ + hexB _) = b
        rw [h1.2, h2.2, show 16 * (b.toNat / 16) + b.toNat % 16 = b.toNat by omega]
        exact UInt8.ofNat_toNat
      show decL (37 :: hexU (b.toNat / 16) :: hexU (b.toNat % 16) :: encL s l) i = _
      rw [decL_esc i he, hv]
      show (decL (encL s l) (i + 3)).map _ = _
      rw [dec_enc s l]
      rfl
/-- Is the byte written as an escape? -/
def escd (s : WSet) (z : UInt8) : Bool := z == 37 || !(s.has z.toNat)
theorem enc1_count (s : WSet) (z : UInt8) : (enc1 s z).length = 1 + 2 * (if escd s z then 1 else 0) := by
  unfold enc1 escd
  cases h1 : z == 37 <;> cases h2 : s.has z.toNat <;> simp [bne, h1]
theorem encL_app (s : WSet) (x y : List UInt8) : encL s (x ++ y) = encL s x ++ encL s y := by
  unfold encL; rw [List.flatMap_append]
theorem bit_zero (x : BitVec 64) (k : Nat) : (bits .and .u64 ((x.toNat : Int) / 2 ^ k) 1 == 0) = !(x.getLsbD k) := by
  have h := has_bit x k
  have h2 : bits .and .u64 ((x.toNat : Int) / 2 ^ k) 1 = 0 ∨ bits .and .u64 ((x.toNat : Int) / 2 ^ k) 1 = 1 := by
    rw [shr_word, and_one]
    have : (x >>> k &&& 1#64).toNat = 0 ∨ (x >>> k &&& 1#64).toNat = 1 := by
      rw [BitVec.toNat_and]
      show (x >>> k).toNat &&& 1 = 0 ∨ (x >>> k).toNat &&& 1 = 1
      rw [Nat.and_one_is_mod]; omega
    omega
  rcases h2 with h2 | h2
  · rw [h2] at h ⊢; rw [← h]; rfl
  · rw [h2] at h ⊢; rw [← h]; rfl
end Go.Proofs.Ytheajdgdllobbaa
