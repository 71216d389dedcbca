/-
  Lists of numbers with commas: their elements, and what Same answers. No condition.
-/
import Derived.Test.YtekbahpobhjobaaDoorNTrim
import Derived.Test.YtekbahpobhjobaaDoorNNum
import Derived.Test.YtekbahpobhjobaaDoorNRead
namespace Go.Proofs.YtekbahpobhjobaaDoor
open Go.RowKit
/-- What stands between the commas. -/
def piecesF : List UInt8 → List UInt8 → List (List UInt8)
  | [], cur => [cur]
  | c :: r, cur => if c = 44 then cur :: piecesF r [] else piecesF r (cur ++ [c])
def elemsL (l : List UInt8) : List (List UInt8) := (piecesF l []).map trimL
def badE (e : List UInt8) : Bool := decide (e.length = 0 ∨ prefF false e < e.length)
/-- What Same answers: a number and an error. -/
def sameR (l : List UInt8) (digits : Int) (most : Nat) : Nat × Nat :=
  if (elemsL l).any badE then (0, 3) else
  match (elemsL l).find? (fun e => (readR false e digits most).2 != 0) with
  | some e => (0, (readR false e digits most).2)
  | none => if (elemsL l).all (fun e => numL false e == numL false ((elemsL l).headD [])) then (numL false ((elemsL l).headD []), 0) else (0, 7)
def sameV (l : List UInt8) (digits : Int) (most : Nat) : Value := .tuple #[.int .u64 ((sameR l digits most).1 : Nat), .int .i64 ((sameR l digits most).2 : Nat)]
theorem piecesF_comma {l cur : List UInt8} {k : Nat} (h : k < l.length) (hc : l[k] = 44) : piecesF (l.drop k) cur = cur :: piecesF (l.drop (k + 1)) [] := by
  rw [List.drop_eq_getElem_cons h, hc]; rfl
theorem piecesF_more {l cur : List UInt8} {k : Nat} (h : k < l.length) (hc : l[k] ≠ 44) : piecesF (l.drop k) cur = piecesF (l.drop (k + 1)) (cur ++ [l[k]]) := by
  rw [List.drop_eq_getElem_cons h]
  show (if l[k] = 44 then _ else _) = _
  rw [if_neg hc]
/-- The piece from j up to k. -/
def subL (l : List UInt8) (j k : Nat) : List UInt8 := (l.take k).drop j
theorem subL_none (l : List UInt8) (k : Nat) : subL l k k = [] := by
  unfold subL
  rw [List.drop_eq_nil_of_le]
  rw [List.length_take]; omega
theorem subL_more {l : List UInt8} {j k : Nat} (hj : j ≤ k) (h : k < l.length) : subL l j (k + 1) = subL l j k ++ [l[k]] := by
  unfold subL
  rw [List.take_succ_eq_append_getElem h, List.drop_append_of_le_length (by rw [List.length_take]; omega)]
theorem ba_sub (l : List UInt8) (j k : Nat) : (ByteArray.mk l.toArray).extract j k = ⟨(subL l j k).toArray⟩ := by
  apply ByteArray.ext
  rw [ByteArray.data_extract, List.extract_toArray, List.extract_eq_take_drop]
  unfold subL
  rw [List.drop_take]
theorem tr_length (l : List UInt8) : (tr l).length ≤ l.length := by
  unfold tr
  rw [List.length_reverse]
  exact Nat.le_trans (List.dropWhile_sublist _).length_le (by simp)
theorem trimL_length (l : List UInt8) : (trimL l).length ≤ l.length := Nat.le_trans (tr_length _) (tl_length _)
theorem subL_length (l : List UInt8) (j k : Nat) : (subL l j k).length ≤ l.length := by
  unfold subL
  rw [List.length_drop, List.length_take]; omega
theorem piecesF_length : ∀ (l cur : List UInt8), (piecesF l cur).length ≤ l.length + 1 ∧ 0 < (piecesF l cur).length ∧ ∀ e ∈ piecesF l cur, e.length ≤ l.length + cur.length
  | [], cur => ⟨by simp [piecesF], by simp [piecesF], fun e he => by simp [piecesF] at he; simp [he]⟩
  | c :: r, cur => by
    unfold piecesF
    split
    · obtain ⟨h1, h2, h3⟩ := piecesF_length r []
      refine ⟨by simp; omega, by simp, fun e he => ?_⟩
      rcases List.mem_cons.1 he with rfl | he
      · simp
      · have := h3 e he; simp at this ⊢; omega
    · obtain ⟨h1, h2, h3⟩ := piecesF_length r (cur ++ [c])
      refine ⟨by simp; omega, h2, fun e he => ?_⟩
      have := h3 e he
      simp at this ⊢; omega
theorem elems_all (l : List UInt8) : (elemsL l).length ≤ l.length + 1 ∧ 0 < (elemsL l).length ∧ ∀ e ∈ elemsL l, e.length ≤ l.length := by
  obtain ⟨h1, h2, h3⟩ := piecesF_length l []
  unfold elemsL
  refine ⟨by rw [List.length_map]; exact h1, by rw [List.length_map]; exact h2, fun e he => ?_⟩
  obtain ⟨p, hp, rfl⟩ := List.mem_map.1 he
  have := h3 p hp
  have h4 := trimL_length p
  simp at this; omega
theorem any_take {E : List (List UInt8)} {k : Nat} (h : k < E.length) (f : List UInt8 → Bool) : (E.take (k + 1)).any f = ((E.take k).any f || f E[k]) := by
  rw [List.take_succ_eq_append_getElem h, List.any_append]; simp
theorem all_take {E : List (List UInt8)} {k : Nat} (h : k < E.length) (f : List UInt8 → Bool) : (E.take (k + 1)).all f = ((E.take k).all f && f E[k]) := by
  rw [List.take_succ_eq_append_getElem h, List.all_append]; simp
theorem any_yes {E : List (List UInt8)} {k : Nat} (h : k < E.length) {f : List UInt8 → Bool} (hf : f E[k] = true) : E.any f = true := List.any_eq_true.2 ⟨_, List.getElem_mem h, hf⟩
theorem find_at {E : List (List UInt8)} {k : Nat} (h : k < E.length) {f : List UInt8 → Bool} (h1 : (E.take k).all (fun e => !(f e)) = true) (hf : f E[k] = true) : E.find? f = some E[k] := by
  have e : E = E.take k ++ E[k] :: E.drop (k + 1) := by rw [← List.drop_eq_getElem_cons h, List.take_append_drop]
  have hn : (E.take k).find? f = none := by
    rw [List.find?_eq_none]
    intro x hx
    have := List.all_eq_true.1 h1 x hx
    simpa using this
  conv => lhs; rw [e]
  rw [List.find?_append, hn, List.find?_cons, hf]
  rfl
theorem find_none {E : List (List UInt8)} {f : List UInt8 → Bool} (h1 : E.all (fun e => !(f e)) = true) : E.find? f = none := by
  rw [List.find?_eq_none]
  intro x hx
  have := List.all_eq_true.1 h1 x hx
  simpa using this
end Go.Proofs.YtekbahpobhjobaaDoor
