/-
  Lists of equal numbers, with blanks and zeros, and one with another number. No condition.
-/
import Derived.Test.YtekbahpobhjobaaDoorNSameF
import Derived.Test.YtekbahpobhjobaaDoorNNum
namespace Go.Proofs.YtekbahpobhjobaaDoor
open Go.RowKit
theorem digL_short {base : Nat} (hb : 2 ≤ base) : ∀ (k n : Nat), n < U64 → n < base ^ (k + 1) → (digL base n).length ≤ k + 1
  | 0, n, hn, h => by
    rw [digL_step hb hn, if_pos (by simpa using h)]; simp
  | k + 1, n, hn, h => by
    rw [digL_step hb hn]
    split
    · simp
    · have h1 : n / base < base ^ (k + 1) := Nat.div_lt_of_lt_mul (by rw [Nat.pow_succ, Nat.mul_comm] at h; exact h)
      have := digL_short hb k (n / base) (Nat.lt_of_le_of_lt (Nat.div_le_self _ _) hn) h1
      rw [List.length_append]
      simp; omega
theorem digL_20 {n : Nat} (hn : n < U64) : (digL 10 n).length ≤ 20 := digL_short (by omega) 19 n hn (Nat.lt_of_lt_of_le hn (by decide))
/-- No comma. -/
def noC (l : List UInt8) : Prop := ∀ c ∈ l, c ≠ 44
theorem piecesF_none : ∀ (x cur : List UInt8), noC x → piecesF x cur = [cur ++ x]
  | [], cur, _ => by simp [piecesF]
  | c :: x, cur, h => by
    unfold piecesF
    rw [if_neg (h c (by simp)), piecesF_none x (cur ++ [c]) (fun d hd => h d (by simp [hd]))]
    simp
theorem piecesF_cons (c : UInt8) (x cur : List UInt8) : piecesF (c :: x) cur = if c = 44 then cur :: piecesF x [] else piecesF x (cur ++ [c]) := rfl
theorem piecesF_app {P : List (List UInt8)} {last : List UInt8} : ∀ {x y cur : List UInt8}, piecesF x cur = P ++ [last] → piecesF (x ++ y) cur = P ++ piecesF y last
  | [], y, cur, h => by
    have h2 : [cur] = P ++ [last] := h
    cases P with
    | nil => simp at h2; rw [h2]; rfl
    | cons p r => simp at h2
  | c :: x, y, cur, h => by
    rw [piecesF_cons] at h
    show piecesF (c :: (x ++ y)) cur = _
    rw [piecesF_cons]
    split at h
    · rename_i hc
      rw [if_pos hc]
      cases P with
      | nil =>
        simp at h
        have := (piecesF_length x []).2.1
        rw [h.2] at this
        simp at this
      | cons p r =>
        simp at h
        rw [piecesF_app h.2, h.1]; rfl
    · rename_i hc
      rw [if_neg hc]
      exact piecesF_app h
theorem piecesF_tok {B t last : List UInt8} (hB : noC B) (ht : noC t) : piecesF (B ++ 44 :: t) last = [last ++ B, t] := by
  have h : piecesF B last = [] ++ [last ++ B] := piecesF_none B last hB
  rw [piecesF_app h]
  show piecesF (44 :: t) (last ++ B) = _
  unfold piecesF
  rw [if_pos rfl, piecesF_none t [] ht]
  simp
/-- Blanks round a text that begins and ends with none. -/
def solid (x : List UInt8) : Prop := ∃ c r d s, x = c :: r ∧ x = s ++ [d] ∧ isBl c = false ∧ isBl d = false
theorem tl_blanks {B y : List UInt8} (h : ∀ c ∈ B, isBl c = true) : tl (B ++ y) = tl y := by
  induction B with
  | nil => rfl
  | cons c B ih =>
    show tl (c :: (B ++ y)) = _
    rw [tl_cons, h c (by simp), if_pos rfl, ih (fun d hd => h d (by simp [hd]))]
theorem tr_blanks {x B : List UInt8} (h : ∀ c ∈ B, isBl c = true) : tr (x ++ B) = tr x := by
  rcases List.eq_nil_or_concat B with h0 | ⟨B', c, h0⟩
  · rw [h0, List.append_nil]
  · rw [List.concat_eq_append] at h0
    have hlen : B'.length < B.length := by rw [h0]; simp
    rw [h0, ← List.append_assoc, tr_snoc, h c (by rw [h0]; simp), if_pos rfl]
    exact tr_blanks (fun d hd => h d (by rw [h0]; simp [hd]))
termination_by B.length
theorem trim_solid {A x B : List UInt8} (hA : ∀ c ∈ A, isBl c = true) (hB : ∀ c ∈ B, isBl c = true) (hx : solid x) : trimL (A ++ x ++ B) = x := by
  obtain ⟨c, r, d, s, h1, h2, hc, hd⟩ := hx
  unfold trimL
  rw [List.append_assoc, tl_blanks hA]
  have e : tl (x ++ B) = x ++ B := by rw [h1]; show tl (c :: (r ++ B)) = _; rw [tl_cons, hc]; rfl
  rw [e, tr_blanks hB, h2, tr_snoc, hd]; rfl
theorem digit_solid {c : UInt8} (h : isD false c = true) : isBl c = false ∧ c ≠ 44 := by
  have ht : ∀ a : Fin 256, isD false (UInt8.ofNat a.val) = true → isBl (UInt8.ofNat a.val) = false ∧ UInt8.ofNat a.val ≠ 44 := by decide +kernel
  have := ht ⟨c.toNat, UInt8.toNat_lt c⟩
  simp only [UInt8.ofNat_toNat] at this
  exact this h
theorem num_solid {x : List UInt8} (h0 : 0 < x.length) (hp : prefF false x = x.length) : solid x ∧ noC x := by
  have ha := prefF_all hp
  constructor
  · cases x with
    | nil => simp at h0
    | cons c r =>
      rcases List.eq_nil_or_concat (c :: r) with h | ⟨s, d, h⟩
      · cases h
      · rw [List.concat_eq_append] at h
        refine ⟨c, r, d, s, rfl, h, (digit_solid (ha 0 (by simp))).1, ?_⟩
        have hlt : s.length < (c :: r).length := by rw [h]; simp
        have h2 := (digit_solid (ha s.length hlt)).1
        have h3 : (c :: r)[s.length]'hlt = d := by simp only [h]; simp
        rw [h3] at h2
        exact h2
  · intro c hc
    obtain ⟨i, hi, rfl⟩ := List.mem_iff_getElem.1 hc
    exact (digit_solid (ha i hi)).2
/-- An element that is the number n, and short. -/
def goodE (n : Nat) (e : List UInt8) : Prop := 0 < e.length ∧ e.length ≤ 30 ∧ prefF false e = e.length ∧ numL false e = n
theorem good_bad {n : Nat} {e : List UInt8} (h : goodE n e) : badE e = false := by
  obtain ⟨h1, h2, h3, h4⟩ := h
  unfold badE
  rw [decide_eq_false_iff_not]; omega
theorem good_read {n m : Nat} {e : List UInt8} (h : goodE n e) (hn : n ≤ m) (hm : m < U64) : ((readR false e 30 m).2 != 0) = false := by
  obtain ⟨h1, h2, h3, h4⟩ := h
  rw [readR_ok h1 h3 (by omega) (by rw [h4]; exact hn) hm]; rfl
theorem any_no {E : List (List UInt8)} {n : Nat} (h : ∀ e ∈ E, goodE n e) : E.any badE = false := by
  rw [List.any_eq_false]
  intro e he
  rw [good_bad (h e he)]; simp
theorem same_good {l : List UInt8} {n : Nat} (hn : n < U64) (h : ∀ e ∈ elemsL l, goodE n e) : sameR l 30 n = (n, 0) := by
  have hne := (elems_all l).2.1
  have hh : goodE n ((elemsL l).headD []) := by
    cases hE : elemsL l with
    | nil => rw [hE] at hne; simp at hne
    | cons c r => exact h c (by rw [hE]; simp)
  have hf : (elemsL l).find? (fun e => (readR false e 30 n).2 != 0) = none := by
    rw [List.find?_eq_none]
    intro e he
    rw [good_read (h e he) (Nat.le_refl n) hn]; simp
  have ha : (elemsL l).all (fun e => numL false e == numL false ((elemsL l).headD [])) = true := by
    rw [List.all_eq_true]
    intro e he
    rw [(h e he).2.2.2, hh.2.2.2]; simp
  unfold sameR
  rw [any_no h, hf]
  simp only [ha]
  rw [hh.2.2.2]; rfl
theorem same_other {l : List UInt8} {n m : Nat} (hn : n < U64) (hm : m < U64) (hnm : m ≠ n) {P : List (List UInt8)} {x : List UInt8} (hE : elemsL l = P ++ [x]) (hP : 0 < P.length) (h : ∀ e ∈ P, goodE n e) (hx : goodE m x) : sameR l 30 (U64 - 1) = (0, 7) := by
  have hU : U64 - 1 < U64 := by decide
  have hany : (elemsL l).any badE = false := by
    rw [hE, List.any_append, any_no h]; simp [good_bad hx]
  have hf : (elemsL l).find? (fun e => (readR false e 30 (U64 - 1)).2 != 0) = none := by
    rw [List.find?_eq_none, hE]
    intro e he
    rcases List.mem_append.1 he with he | he
    · rw [good_read (h e he) (by omega) hU]; simp
    · rw [List.mem_singleton.1 he, good_read hx (by omega) hU]; simp
  have hh : numL false ((elemsL l).headD []) = n := by
    rw [hE]
    cases P with
    | nil => simp at hP
    | cons c r => exact (h c (by simp)).2.2.2
  have ha : (elemsL l).all (fun e => numL false e == numL false ((elemsL l).headD [])) = false := by
    rw [hh, hE, List.all_append]
    have : (numL false x == n) = false := by rw [hx.2.2.2, beq_eq_false_iff_ne]; exact hnm
    simp [this]
  unfold sameR
  rw [hany, hf]
  simp only [ha]
  rfl
/-- What the law's list is made of: pieces that are the number n, the last one without blanks behind it. -/
def Lst (n : Nat) (S o : List UInt8) : Prop := ∃ (P : List (List UInt8)) (A Z : List UInt8), piecesF o [] = P ++ [A ++ Z ++ S] ∧ (∀ p ∈ P, goodE n (trimL p)) ∧ (∀ c ∈ A, isBl c = true) ∧ goodE n (Z ++ S)
theorem good_trim {n : Nat} {A X B : List UInt8} (hA : ∀ c ∈ A, isBl c = true) (hB : ∀ c ∈ B, isBl c = true) (h : goodE n X) : trimL (A ++ X ++ B) = X := trim_solid hA hB (num_solid h.1 h.2.2.1).1
theorem Lst.all {n : Nat} {S o : List UInt8} (h : Lst n S o) : ∀ e ∈ elemsL o, goodE n e := by
  obtain ⟨P, A, Z, h1, h2, h3, h4⟩ := h
  unfold elemsL
  rw [h1, List.map_append]
  intro e he
  rcases List.mem_append.1 he with he | he
  · obtain ⟨p, hp, rfl⟩ := List.mem_map.1 he
    exact h2 p hp
  · have : e = trimL (A ++ Z ++ S) := by simpa using he
    rw [this]
    have := good_trim (A := A) (X := Z ++ S) (B := []) h3 (by simp) h4
    rw [List.append_nil, ← List.append_assoc] at this
    rw [this]; exact h4
theorem Lst.start {n : Nat} {S : List UInt8} (h : goodE n S) : Lst n S S := by
  refine ⟨[], [], [], ?_, by simp, by simp, h⟩
  rw [piecesF_none S [] (num_solid h.1 h.2.2.1).2]; rfl
theorem blank_noC {B : List UInt8} (h : ∀ c ∈ B, isBl c = true) : noC B := by
  intro c hc e
  have := h c hc
  rw [e] at this
  cases this
theorem noC_append {x y : List UInt8} (hx : noC x) (hy : noC y) : noC (x ++ y) := fun c hc => (List.mem_append.1 hc).elim (hx c) (hy c)
theorem Lst.step {n : Nat} {S o B1 B2 Z2 : List UInt8} (h : Lst n S o) (h1 : ∀ c ∈ B1, isBl c = true) (h2 : ∀ c ∈ B2, isBl c = true) (hz : goodE n (Z2 ++ S)) : Lst n S (o ++ (B1 ++ 44 :: (B2 ++ (Z2 ++ S)))) := by
  obtain ⟨P, A, Z, e1, e2, e3, e4⟩ := h
  refine ⟨P ++ [A ++ Z ++ S ++ B1], B2, Z2, ?_, ?_, h2, hz⟩
  · rw [piecesF_app e1, piecesF_tok (blank_noC h1) (noC_append (blank_noC h2) (num_solid hz.1 hz.2.2.1).2)]
    simp
  · intro p hp
    rcases List.mem_append.1 hp with hp | hp
    · exact e2 p hp
    · have hp : p = A ++ Z ++ S ++ B1 := by simpa using hp
      have := good_trim (A := A) (X := Z ++ S) (B := B1) e3 h1 e4
      rw [← List.append_assoc] at this
      rw [hp, this]; exact e4
theorem Lst.other {n m : Nat} {S o X : List UInt8} (h : Lst n S o) (hn : n < U64) (hm : m < U64) (hnm : m ≠ n) (hX : goodE m X) : sameR (o ++ 44 :: X) 30 (U64 - 1) = (0, 7) := by
  have hall := h.all
  obtain ⟨P, A, Z, e1, e2, e3, e4⟩ := h
  have hXs := num_solid hX.1 hX.2.2.1
  have hp : piecesF (o ++ 44 :: X) [] = P ++ [A ++ Z ++ S, X] := by
    have := piecesF_app (y := 44 :: X) e1
    rw [this]
    have h2 := piecesF_tok (B := []) (last := A ++ Z ++ S) (fun c hc => by simp at hc) hXs.2
    rw [List.append_nil] at h2
    rw [show (44 :: X) = [] ++ 44 :: X from rfl, h2]
  have hX2 : trimL X = X := by
    have := good_trim (A := []) (X := X) (B := []) (by simp) (by simp) hX
    simpa using this
  refine same_other hn hm hnm (P := elemsL o) (x := X) ?_ (elems_all o).2.1 hall hX
  unfold elemsL
  rw [hp, e1]
  simp [hX2]
theorem good_digits {n : Nat} (hn : n < U64) (k : Nat) (hk : k ≤ 3) : goodE n (List.replicate k 48 ++ digL 10 n) := by
  obtain ⟨i1, i2⟩ := digL_is false n hn
  have h20 := digL_20 hn
  have h0 := (digL_length 10 n).1
  obtain ⟨z1, z2⟩ := zeros_is false k i2
  refine ⟨by rw [List.length_append]; omega, by rw [List.length_append, List.length_replicate]; omega, z2, z1.trans i1⟩
end Go.Proofs.YtekbahpobhjobaaDoor
