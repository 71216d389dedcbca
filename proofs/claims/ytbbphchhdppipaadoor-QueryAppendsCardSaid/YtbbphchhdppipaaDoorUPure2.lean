/-
  Codes, purely: they are literals, say what was encoded, and differ where the strings do; what is read back; what results hold. No condition.
-/
import Derived.Test.YtbbphchhdppipaaDoorURef5
namespace Go.Proofs.YtbbphchhdppipaaDoor
open Go.RowKit
theorem hexU_hex : ∀ n : Fin 16, hexP (hexU n.val).toNat = (n.val, true) := by decide +kernel
theorem hexU_is (n : Nat) (h : n < 16) : isHex (hexU n) = true ∧ hexB (hexU n) = n := by
  have := hexU_hex ⟨n, h⟩
  simp only at this
  unfold isHex hexB
  rw [this]
  exact ⟨rfl, rfl⟩
theorem stay_ne {z : UInt8} (h : stayS.has z.toNat = true) : z ≠ 37 := by
  rintro rfl
  rw [show ((37 : UInt8).toNat) = 37 from rfl, stay_37] at h
  cases h
theorem code_cons (z : UInt8) (l : List UInt8) : codeL (z :: l) = enc1 stayS z ++ codeL l := rfl
theorem code_back : ∀ l : List UInt8, okE (codeL l) = true ∧ unL (codeL l) = l
  | [] => ⟨rfl, rfl⟩
  | z :: l => by
    obtain ⟨ih1, ih2⟩ := code_back l
    rw [code_cons]
    cases h : stayS.has z.toNat with
    | true =>
      rw [code1_yes h]
      show okE (z :: codeL l) = true ∧ unL (z :: codeL l) = z :: l
      rw [okE_plain (stay_ne h), unL_plain (stay_ne h), ih1, ih2]
      exact ⟨rfl, rfl⟩
    | false =>
      have hz := UInt8.toNat_lt z
      have h1 := hexU_is (z.toNat / 16) (by omega)
      have h2 := hexU_is (z.toNat % 16) (by omega)
      rw [code1_no h]
      show okE (37 :: hexU (z.toNat / 16) :: hexU (z.toNat % 16) :: codeL l) = true ∧ unL (37 :: hexU (z.toNat / 16) :: hexU (z.toNat % 16) :: codeL l) = z :: l
      rw [okE, if_pos rfl, unL, if_pos rfl, h1.1, h2.1, ih1, ih2, h1.2, h2.2, show 16 * (z.toNat / 16) + z.toNat % 16 = z.toNat by omega, UInt8.ofNat_toNat]
      exact ⟨rfl, rfl⟩
theorem code_inj {s t : List UInt8} (h : codeL s = codeL t) : s = t := by
  rw [← (code_back s).2, ← (code_back t).2, h]
theorem code_app (s t : List UInt8) : codeL (s ++ t) = codeL s ++ codeL t := by
  unfold codeL encL
  rw [List.flatMap_append]
theorem code_eq (s t : List UInt8) : (codeL s == codeL t) = (s == t) := by
  rw [Bool.eq_iff_iff, beq_iff_eq, beq_iff_eq]
  exact ⟨code_inj, fun h => by rw [h]⟩
/-- The bytes of codes: those that stay, the percent sign, hexadecimal digits. -/
theorem code_mem {P : UInt8 → Bool} (h1 : ∀ z, stayS.has z.toNat = true → P z = true) (h2 : P 37 = true) (h3 : ∀ n, n < 16 → P (hexU n) = true) (l : List UInt8) : (codeL l).all P = true := by
  induction l with
  | nil => rfl
  | cons z r ih =>
    rw [code_cons, List.all_append, ih, Bool.and_true]
    have hz := UInt8.toNat_lt z
    cases h : stayS.has z.toNat with
    | true =>
      rw [code1_yes h]
      simp [h1 z h]
    | false =>
      rw [code1_no h]
      simp [h2, h3 _ (show z.toNat / 16 < 16 by omega), h3 _ (show z.toNat % 16 < 16 by omega)]
theorem stay_lit : ∀ n, n < 256 → stayS.has n = true → litS.has n = true := by decide +kernel
theorem hex_lit : ∀ n, n < 16 → litS.has (hexU n).toNat = true := by decide +kernel
theorem code_lit (l : List UInt8) : litN (codeL l) = 0 :=
  lit_ok (code_back l).1 (code_mem (fun z h => stay_lit _ (UInt8.toNat_lt z) h) (by decide +kernel) hex_lit l)
/-- What results hold: the error, and what there is beside it. -/
def errP {α : Type} : Nat ⊕ α → Nat
  | .inl e => e
  | .inr _ => 0
def lstP : Nat ⊕ List Pr → List Pr
  | .inl _ => []
  | .inr L => L
def txtS : Nat ⊕ List UInt8 → List UInt8
  | .inl _ => []
  | .inr t => t
theorem prs_res {base : Nat} {R : Nat ⊕ List Pr} {e : Ending} {w : World} (h : PrsPost base R e w) :
    ∃ p c, e = .returned (.tuple #[.slice p (lstP R).length c, .int .i64 (errP R : Nat)]) ∧ PrsAt w (.slice p (lstP R).length c) (lstP R) := by
  cases R with
  | inl x => exact ⟨none, 0, h, PrsAt.nil w⟩
  | inr L =>
    obtain ⟨v, h1, h2⟩ := h
    have h3 := prs_of_own h2
    obtain ⟨p, c, rfl⟩ : ∃ p c, v = .slice p L.length c := own_slice h2
    exact ⟨p, c, h1, h3⟩
theorem str_form (R : Nat ⊕ List UInt8) : strR R = .tuple #[.string ⟨(txtS R).toArray⟩, .int .i64 (errP R : Nat)] := by
  cases R <;> rfl
theorem prs_small {q : List UInt8} : (lstP (prsR q)).length < 1000 := by
  unfold prsR
  split
  · rename_i h
    have h1 := pairs_len q
    have h2 := chk_len h
    show (pairsL q).length < 1000
    omega
  · show 0 < 1000
    omega
theorem dec_small2 {q : List UInt8} : (lstP (decR q)).length < 1000 := by
  cases h : decR q with
  | inl e =>
    show 0 < 1000
    omega
  | inr L =>
    have := (dec_small h).1
    show L.length < 1000
    omega
end Go.Proofs.YtbbphchhdppipaaDoor
