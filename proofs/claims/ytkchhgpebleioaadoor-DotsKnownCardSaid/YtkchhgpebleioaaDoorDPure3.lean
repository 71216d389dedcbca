/-
  Paths, purely: two slashes one behind the other, and empty pieces. No condition.
-/
import Derived.Test.YtkchhgpebleioaaDoorDPure2
import Derived.Lib.IndexMore
namespace Go.Proofs.YtkchhgpebleioaaDoor
/-- Two slashes one behind the other. -/
def cDD : List UInt8 → Bool
  | [] => false
  | b :: l => ([47, 47] : List UInt8).isPrefixOf (b :: l) || cDD l
theorem contains_DD : ∀ l : List UInt8, Lib.contains l [47, 47] = cDD l
  | [] => rfl
  | b :: l => by
    have ih := contains_DD l
    have hg := Lib.index_ge l [47, 47]
    unfold Lib.contains at ih ⊢
    unfold Lib.index cDD
    cases ([47, 47] : List UInt8).isPrefixOf (b :: l) with
    | true => simp
    | false =>
      rw [Bool.false_or, ← ih]
      by_cases h : Lib.index l [47, 47] = -1
      · rw [h]; rfl
      · rw [if_neg (by simp), if_neg (by simpa using h)]
        rw [decide_eq_decide]
        omega
theorem DD_other {c : UInt8} (hc : c.toNat ≠ 47) (r : List UInt8) : cDD (c :: r) = cDD r := by
  have hb : (47 == c) = false := by
    rw [beq_eq_false_iff_ne]
    rintro rfl
    exact hc rfl
  rw [cDD, List.isPrefixOf, hb]
  rfl
theorem DD_slash (c : UInt8) (r : List UInt8) : cDD (47 :: c :: r) = (47 == c || cDD (c :: r)) := by
  rw [cDD]
  show ((47 == (47 : UInt8)) && ((47 == c) && true) || _) = _
  simp
theorem cut_empty : ∀ (r cur : List UInt8), (cutS cur r).dropLast.any (· == []) = if cur = [] then cDD (47 :: r) else cDD r
  | [], cur => by
    simp only [cutS, List.dropLast_singleton, List.any_nil]
    split <;> rfl
  | c :: r, cur => by
    by_cases hc : c.toNat = 47
    · have h2 : c = 47 := UInt8.toNat_inj.1 hc
      subst h2
      have ih := cut_empty r []
      rw [if_pos rfl] at ih
      rw [cutS, if_pos hc, List.dropLast_cons_of_ne_nil (cutS_ne _ _), List.any_cons, ih]
      by_cases h : cur = []
      · rw [if_pos h, DD_slash, h]
        simp
      · rw [if_neg h]
        simp [h]
    · have ih := cut_empty r (cur ++ [c])
      rw [if_neg (by simp)] at ih
      rw [cutS, if_neg hc, ih]
      have hb : (47 == c) = false := by
        rw [beq_eq_false_iff_ne]
        rintro rfl
        exact hc rfl
      split
      · rw [DD_slash, hb, Bool.false_or, DD_other hc]
      · rw [DD_other hc]
theorem okL_all (R : List (List UInt8)) : okL R = (!(R.dropLast.any (· == [])) && R.all fun x => !dotB x) := by
  rw [Bool.eq_iff_iff, Bool.and_eq_true, Bool.not_eq_true', List.all_eq_true, List.any_eq_false]
  constructor
  · intro h
    exact ⟨fun x hx => by simpa using okL_init R h x hx, fun x hx => by rw [okL_mem R h x hx]; rfl⟩
  · rintro ⟨h1, h2⟩
    exact okL_of R (fun x hx => by simpa using h2 x hx) (fun x hx => by simpa using h1 x hx)
theorem norm_eq (p : List UInt8) : normB p = (decide (p.length ≤ 128) && (pathB p && (!(Lib.contains p [47, 47]) && (piecesL p).all fun x => !dotB x))) := by
  unfold normB
  rw [okL_all, contains_DD]
  cases hp : pathB p with
  | false => simp
  | true =>
    cases p with
    | nil => simp [pathB] at hp
    | cons c r =>
      have hc : c = 47 := UInt8.toNat_inj.1 (by simpa [pathB] using hp)
      subst hc
      have := cut_empty r []
      rw [if_pos rfl] at this
      rw [show piecesL (47 :: r) = cutS [] r from rfl, this]
      simp
end Go.Proofs.YtkchhgpebleioaaDoor
