/-
  Paths, purely: pieces, which paths are normal, what is made of them. No condition.
  Paths, purely: segments are names, a normal path is made of its segments, what is made of names is read back, what cleaning makes is normal. No condition.
  Paths, purely: two slashes one behind the other, and empty pieces. No condition.
-/
import Derived.Test.YtjinedeelkdgiaaDoorProg
import Derived.Lib.Hide
import Derived.Lib.IndexMore
namespace Go.Proofs.YtjinedeelkdgiaaDoor
/-- The strings between slashes, with what of the first one is read already. -/
def cutS : List UInt8 → List UInt8 → List (List UInt8)
  | cur, [] => [cur]
  | cur, c :: r => if c.toNat = 47 then cur :: cutS [] r else cutS (cur ++ [c]) r
/-- The strings between the slashes of a path, and the one behind its last slash. -/
def piecesL (p : List UInt8) : List (List UInt8) := cutS [] (p.drop 1)
def dotB (x : List UInt8) : Bool := x == [46] || x == [46, 46]
def pathB : List UInt8 → Bool
  | [] => false
  | c :: _ => c.toNat == 47
/-- No piece is a dot segment, none but the last one is empty. -/
def okL : List (List UInt8) → Bool
  | [] => true
  | [x] => !dotB x
  | x :: y :: r => !(dotB x || x == []) && okL (y :: r)
def normB (p : List UInt8) : Bool := pathB p && decide (p.length ≤ 128) && okL (piecesL p)
def flatL : List (List UInt8) → List UInt8
  | [] => []
  | x :: r => 47 :: (x ++ flatL r)
def putL (L : List (List UInt8)) (o : Bool) : List UInt8 := flatL L ++ (if o || L == [] then [47] else [])
/-- What cleaning makes of pieces, with kept ones, and whether the path ends open. -/
def clnF : List (List UInt8) → List (List UInt8) → Bool → Option (List UInt8)
  | [], K, o => some (putL K o)
  | x :: r, K, _ => if x = [46, 46] then (if K = [] then none else clnF r K.dropLast true) else if x = [] ∨ x = [46] then clnF r K true else clnF r (K ++ [x]) false
def endC : Option (List UInt8) → Nat ⊕ List UInt8
  | none => .inl 18
  | some t => .inr t
def cleanR (p : List UInt8) : Nat ⊕ List UInt8 := if pathB p then endC (clnF (piecesL p) [] false) else .inl 3
/-- A text and no error, or no text and an error. -/
def strR : Nat ⊕ List UInt8 → Value
  | .inl e => .tuple #[.string ⟨#[]⟩, .int .i64 (e : Int)]
  | .inr t => .tuple #[.string ⟨t.toArray⟩, .int .i64 0]
def openB (p : List UInt8) : Bool := ([47] : List UInt8).isSuffixOf p
def segsL (p : List UInt8) : List (List UInt8) := (piecesL p).filter fun x => !(x == [])
def segsR (p : List UInt8) : Nat ⊕ List (List UInt8) := if normB p then .inr (segsL p) else .inl 3
def parentR (p : List UInt8) : Nat ⊕ List UInt8 := if normB p then (if segsL p = [] then .inl 6 else .inr (putL (segsL p).dropLast false)) else .inl 3
def dirB (p : List UInt8) : Bool := normB p && (p == [47] || !openB p)
def underB (p d : List UInt8) : Bool := d == [47] || p == d || (d ++ [47]).isPrefixOf p
def underR (p d : List UInt8) : Value := if normB p && dirB d then .tuple #[.bool (underB p d), .int .i64 0] else .tuple #[.bool false, .int .i64 3]
def nameB (x : List UInt8) : Bool := !(x == []) && !x.contains 47 && !dotB x
def makeR (L : List (List UInt8)) (o : Bool) : Nat ⊕ List UInt8 := if L.all nameB then (if 128 < (putL L o).length then .inl 4 else .inr (putL L o)) else .inl 3
def joinR (d s : List UInt8) : Nat ⊕ List UInt8 := if dirB d then makeR (segsL d ++ [s]) false else .inl 3
/-- How many segments two lists have in common at their beginning. -/
def comN : List (List UInt8) → List (List UInt8) → Nat
  | x :: r, y :: q => if x == y then comN r q + 1 else 0
  | _, _ => 0
def commonR (a b : List UInt8) : Nat ⊕ List UInt8 := if normB a && normB b then .inr (putL ((segsL a).take (comN (segsL a) (segsL b))) false) else .inl 3
theorem cutS_ne (cur l : List UInt8) : cutS cur l ≠ [] := by
  cases l with
  | nil => simp [cutS]
  | cons c r =>
    unfold cutS
    split
    · simp
    · exact cutS_ne _ r
theorem cutS_len : ∀ (l cur : List UInt8), (cutS cur l).length ≤ l.length + 1
  | [], cur => by simp [cutS]
  | c :: r, cur => by
    unfold cutS
    split
    · have := cutS_len r []
      simp only [List.length_cons]
      omega
    · have := cutS_len r (cur ++ [c])
      simp only [List.length_cons]
      omega
theorem cutS_mem : ∀ (l cur x : List UInt8), x ∈ cutS cur l → x.length ≤ cur.length + l.length
  | [], cur, x, h => by
    simp only [cutS, List.mem_singleton] at h
    subst h
    simp
  | c :: r, cur, x, h => by
    unfold cutS at h
    split at h
    · rcases List.mem_cons.1 h with h | h
      · subst h
        simp
      · have := cutS_mem r [] x h
        simp only [List.length_nil, List.length_cons] at this ⊢
        omega
    · have := cutS_mem r (cur ++ [c]) x h
      simp only [List.length_append, List.length_cons, List.length_nil] at this ⊢
      omega
theorem pieces_len (p : List UInt8) : (piecesL p).length ≤ p.length + 1 := by
  have := cutS_len (p.drop 1) []
  rw [List.length_drop] at this
  unfold piecesL
  omega
theorem pieces_mem {p x : List UInt8} (h : x ∈ piecesL p) : x.length ≤ p.length := by
  have := cutS_mem (p.drop 1) [] x h
  rw [List.length_drop, List.length_nil] at this
  omega
theorem segs_len (p : List UInt8) : (segsL p).length ≤ p.length + 1 := Nat.le_trans (List.length_filter_le _ _) (pieces_len p)
theorem segs_mem {p x : List UInt8} (h : x ∈ segsL p) : x.length ≤ p.length := pieces_mem (List.mem_filter.1 h).1
theorem flat_append : ∀ (A B : List (List UInt8)), flatL (A ++ B) = flatL A ++ flatL B
  | [], B => rfl
  | x :: A, B => by simp [flatL, flat_append A B]
theorem flat_len : ∀ (L : List (List UInt8)) (n : Nat), (∀ x ∈ L, x.length ≤ n) → (flatL L).length ≤ L.length * (n + 1)
  | [], n, _ => by simp [flatL]
  | x :: r, n, h => by
    have h1 := flat_len r n (fun y hy => h y (List.mem_cons_of_mem _ hy))
    have h2 := h x (by simp)
    simp only [flatL, List.length_cons, List.length_append, Nat.succ_mul] at h1 ⊢
    rw [Nat.mul_comm] at h1 ⊢
    simp only [Nat.add_mul, Nat.one_mul] at h1 ⊢
    have := Nat.mul_comm n r.length
    omega
theorem comN_le : ∀ (A B : List (List UInt8)), comN A B ≤ A.length ∧ comN A B ≤ B.length
  | [], B => by simp [comN]
  | x :: A, [] => by simp [comN]
  | x :: A, y :: B => by
    have := comN_le A B
    unfold comN
    split
    · simp only [List.length_cons]; omega
    · simp
end Go.Proofs.YtjinedeelkdgiaaDoor
namespace Go.Proofs.YtjinedeelkdgiaaDoor
theorem openB_last (p : List UInt8) : openB p = (p.getLast? == some 47) := by
  unfold openB
  rw [Bool.eq_iff_iff, List.isSuffixOf_iff_suffix, beq_iff_eq]
  constructor
  · rintro ⟨t, rfl⟩
    simp
  · intro h
    have hp : p ≠ [] := by intro e; rw [e] at h; simp at h
    rw [List.getLast?_eq_some_getLast hp] at h
    injection h with h
    refine ⟨p.dropLast, ?_⟩
    rw [← h]
    exact List.dropLast_concat_getLast hp
theorem cutS_last : ∀ (l cur : List UInt8), (cutS cur l).getLast? = some [] ↔ (cur = [] ∧ l = []) ∨ l.getLast? = some 47
  | [], cur => by simp [cutS]
  | c :: r, cur => by
    unfold cutS
    by_cases hc : c.toNat = 47
    · have hc2 : c = 47 := UInt8.toNat_inj.1 hc
      subst hc2
      rw [if_pos hc, List.getLast?_cons]
      have ih := cutS_last r []
      rw [List.getLast?_eq_some_getLast (cutS_ne _ _)] at ih ⊢
      simp only [Option.getD_some, List.cons_ne_nil, and_false, false_or]
      rw [ih, List.getLast?_cons]
      cases r with
      | nil => simp
      | cons y s => simp [List.getLast?_cons]
    · rw [if_neg hc]
      have ih := cutS_last r (cur ++ [c])
      rw [ih, List.getLast?_cons]
      cases r with
      | nil =>
        simp
        intro e
        rw [e] at hc
        exact hc rfl
      | cons y s => simp [List.getLast?_cons]
theorem pieces_open {p : List UInt8} (hp : pathB p = true) : openB p = ((piecesL p).getLast? == some []) := by
  cases p with
  | nil => simp [pathB] at hp
  | cons c r =>
    have hc : c = 47 := UInt8.toNat_inj.1 (by simpa [pathB] using hp)
    subst hc
    rw [openB_last, Bool.eq_iff_iff, beq_iff_eq, beq_iff_eq]
    show _ ↔ (cutS [] r).getLast? = some []
    rw [cutS_last, List.getLast?_cons]
    cases r with
    | nil => simp
    | cons y s => simp [List.getLast?_cons]
theorem cutS_no : ∀ (l cur x : List UInt8), 47 ∉ cur → x ∈ cutS cur l → 47 ∉ x
  | [], cur, x, h, hx => by
    simp only [cutS, List.mem_singleton] at hx
    rw [hx]
    exact h
  | c :: r, cur, x, h, hx => by
    unfold cutS at hx
    by_cases hc : c.toNat = 47
    · rw [if_pos hc] at hx
      rcases List.mem_cons.1 hx with hx | hx
      · rw [hx]; exact h
      · exact cutS_no r [] x (by simp) hx
    · rw [if_neg hc] at hx
      refine cutS_no r (cur ++ [c]) x ?_ hx
      rw [List.mem_append, List.mem_singleton]
      rintro (h1 | h1)
      · exact h h1
      · rw [← h1] at hc; exact hc rfl
theorem pieces_no {p x : List UInt8} (h : x ∈ piecesL p) : 47 ∉ x := cutS_no _ [] x (by simp) h
theorem okL_mem : ∀ (R : List (List UInt8)), okL R = true → ∀ x ∈ R, dotB x = false
  | [], _, x, hx => by cases hx
  | [y], h, x, hx => by
    rw [List.mem_singleton.1 hx]
    simpa [okL] using h
  | y :: z :: r, h, x, hx => by
    simp only [okL, Bool.and_eq_true, Bool.not_eq_true', Bool.or_eq_false_iff] at h
    rcases List.mem_cons.1 hx with hx | hx
    · rw [hx]; exact h.1.1
    · exact okL_mem (z :: r) h.2 x hx
theorem okL_init : ∀ (R : List (List UInt8)), okL R = true → ∀ x ∈ R.dropLast, x ≠ []
  | [], _, x, hx => by cases hx
  | [y], h, x, hx => by simp at hx
  | y :: z :: r, h, x, hx => by
    simp only [okL, Bool.and_eq_true, Bool.not_eq_true', Bool.or_eq_false_iff] at h
    rw [List.dropLast_cons_cons] at hx
    rcases List.mem_cons.1 hx with hx | hx
    · rw [hx]; exact fun e => by simpa [e] using h.1.2
    · exact okL_init (z :: r) h.2 x hx
theorem okL_of : ∀ (R : List (List UInt8)), (∀ x ∈ R, dotB x = false) → (∀ x ∈ R.dropLast, x ≠ []) → okL R = true
  | [], _, _ => rfl
  | [y], h, _ => by simpa [okL] using h y (by simp)
  | y :: z :: r, h, h2 => by
    rw [List.dropLast_cons_cons] at h2
    have ih := okL_of (z :: r) (fun x hx => h x (List.mem_cons_of_mem _ hx)) (fun x hx => h2 x (List.mem_cons_of_mem _ hx))
    have h3 := h y (by simp)
    have h4 := h2 y (by simp)
    simp only [okL, h3, ih]
    simpa using h4
theorem norm_parts {p : List UInt8} (h : normB p = true) : pathB p = true ∧ p.length ≤ 128 ∧ okL (piecesL p) = true := by
  unfold normB at h
  simp only [Bool.and_eq_true, decide_eq_true_eq] at h
  exact ⟨h.1.1, h.1.2, h.2⟩
theorem pieces_ne (p : List UInt8) : piecesL p ≠ [] := cutS_ne _ _
theorem segs_eq {p : List UInt8} (h : normB p = true) : segsL p = if openB p then (piecesL p).dropLast else piecesL p := by
  obtain ⟨h1, h2, h3⟩ := norm_parts h
  have hd := okL_init _ h3
  have hf : ∀ A : List (List UInt8), (∀ x ∈ A, x ≠ []) → A.filter (fun x => !(x == [])) = A := fun A hA => by
    rw [List.filter_eq_self]
    intro x hx
    simpa using hA x hx
  have hc := List.dropLast_concat_getLast (pieces_ne p)
  have ho : openB p = ((piecesL p).getLast (pieces_ne p) == []) := by
    rw [pieces_open h1, List.getLast?_eq_some_getLast (pieces_ne p)]
    rfl
  unfold segsL
  rw [ho]
  by_cases he : (piecesL p).getLast (pieces_ne p) = []
  · rw [he]
    rw [he] at hc
    conv => lhs; rw [← hc]
    rw [List.filter_append, hf _ hd]
    simp
  · rw [show ((piecesL p).getLast (pieces_ne p) == []) = false by simpa using he]
    refine hf _ fun x hx => ?_
    rw [← hc] at hx
    rcases List.mem_append.1 hx with hx | hx
    · exact hd x hx
    · rw [List.mem_singleton.1 hx]; exact he
/-- A list of names. -/
def Names (L : List (List UInt8)) : Prop := ∀ x ∈ L, nameB x = true
theorem names_all {L : List (List UInt8)} : L.all nameB = true ↔ Names L := by
  rw [List.all_eq_true]; rfl
theorem name_parts {x : List UInt8} (h : nameB x = true) : x ≠ [] ∧ 47 ∉ x ∧ dotB x = false := by
  unfold nameB at h
  simp only [Bool.and_eq_true, Bool.not_eq_true', beq_eq_false_iff_ne] at h
  refine ⟨h.1.1, ?_, h.2⟩
  have := h.1.2
  intro e
  rw [List.contains_iff_mem.2 e] at this
  cases this
theorem name_of {x : List UInt8} (h1 : x ≠ []) (h2 : 47 ∉ x) (h3 : dotB x = false) : nameB x = true := by
  unfold nameB
  have : x.contains 47 = false := by
    rw [Bool.eq_false_iff]
    intro e
    exact h2 (List.contains_iff_mem.1 e)
  rw [this, h3, show (x == []) = false by simpa using h1]
  rfl
theorem segs_names {p : List UInt8} (h : normB p = true) : Names (segsL p) := fun x hx => by
  obtain ⟨_, _, h3⟩ := norm_parts h
  obtain ⟨hm, hn⟩ := List.mem_filter.1 hx
  exact name_of (by simpa using hn) (pieces_no hm) (okL_mem _ h3 x hm)
theorem flat_cut : ∀ (l cur : List UInt8), flatL (cutS cur l) = 47 :: (cur ++ l)
  | [], cur => by simp [cutS, flatL]
  | c :: r, cur => by
    unfold cutS
    by_cases hc : c.toNat = 47
    · have hc2 : c = 47 := UInt8.toNat_inj.1 hc
      subst hc2
      rw [if_pos hc, flatL, flat_cut r []]
      simp
    · rw [if_neg hc, flat_cut r (cur ++ [c])]
      simp
theorem flat_pieces {p : List UInt8} (hp : pathB p = true) : flatL (piecesL p) = p := by
  cases p with
  | nil => simp [pathB] at hp
  | cons c r =>
    have hc : c = 47 := UInt8.toNat_inj.1 (by simpa [pathB] using hp)
    subst hc
    exact flat_cut r []
theorem norm_put {p : List UInt8} (h : normB p = true) : putL (segsL p) (openB p) = p := by
  obtain ⟨h1, h2, h3⟩ := norm_parts h
  have hc := List.dropLast_concat_getLast (pieces_ne p)
  have hf := flat_pieces h1
  rw [segs_eq h]
  cases ho : openB p
  · simp only [Bool.false_eq_true, if_false]
    unfold putL
    rw [hf]
    simp [pieces_ne p]
  · simp only [if_true]
    rw [pieces_open h1, List.getLast?_eq_some_getLast (pieces_ne p)] at ho
    have he : (piecesL p).getLast (pieces_ne p) = [] := by simpa using ho
    rw [he] at hc
    unfold putL
    rw [← hc, flat_append] at hf
    simpa [flatL] using hf
theorem cut_skip : ∀ (x cur l : List UInt8), 47 ∉ x → cutS cur (x ++ l) = cutS (cur ++ x) l
  | [], cur, l, _ => by simp
  | c :: x, cur, l, h => by
    have hc : c.toNat ≠ 47 := fun e => h (by rw [show c = 47 from UInt8.toNat_inj.1 e]; simp)
    rw [List.cons_append, cutS, if_neg hc, cut_skip x (cur ++ [c]) l (fun hx => h (List.mem_cons_of_mem _ hx))]
    simp
theorem cut_flat : ∀ (r : List (List UInt8)) (y : List UInt8) (b : Bool), (∀ x ∈ r, 47 ∉ x) → cutS y (flatL r ++ if b then [47] else []) = y :: r ++ if b then [[]] else []
  | [], y, b, _ => by
    cases b
    · simp [flatL, cutS]
    · simp [flatL, cutS]
  | z :: r, y, b, h => by
    have ih := cut_flat r z b (fun x hx => h x (List.mem_cons_of_mem _ hx))
    rw [flatL, List.cons_append, cutS, if_pos (show UInt8.toNat 47 = 47 from rfl), List.append_assoc, cut_skip z [] _ (h z (by simp)), List.nil_append, ih]
    rfl
theorem pieces_put {L : List (List UInt8)} (h : ∀ x ∈ L, 47 ∉ x) (o : Bool) : piecesL (putL L o) = L ++ if o || L == [] then [[]] else [] := by
  cases L with
  | nil => simp [putL, flatL, piecesL, cutS]
  | cons x r =>
    have e : ((x :: r) == []) = false := rfl
    unfold putL piecesL
    rw [e, Bool.or_false, flatL, List.cons_append, List.drop_one, List.tail_cons, List.append_assoc, cut_skip x [] _ (h x (by simp)), List.nil_append, cut_flat r x o (fun y hy => h y (List.mem_cons_of_mem _ hy))]
theorem names_no {L : List (List UInt8)} (h : Names L) : ∀ x ∈ L, 47 ∉ x := fun x hx => (name_parts (h x hx)).2.1
theorem put_path (L : List (List UInt8)) (o : Bool) : pathB (putL L o) = true := by
  cases L with
  | nil => simp [putL, flatL, pathB]
  | cons x r => simp [putL, flatL, pathB]
theorem put_norm {L : List (List UInt8)} (h : Names L) (o : Bool) : normB (putL L o) = decide ((putL L o).length ≤ 128) := by
  unfold normB
  have hok : okL (piecesL (putL L o)) = true := by
    rw [pieces_put (names_no h)]
    refine okL_of _ (fun x hx => ?_) (fun x hx => ?_)
    · rcases List.mem_append.1 hx with hx | hx
      · exact (name_parts (h x hx)).2.2
      · split at hx
        · rw [List.mem_singleton.1 hx]; rfl
        · cases hx
    · have hin : x ∈ L := by
        split at hx
        · simpa using hx
        · rw [List.append_nil] at hx
          exact List.dropLast_subset L hx
      exact (name_parts (h x hin)).1
  rw [put_path, hok]
  simp
theorem put_segs {L : List (List UInt8)} (h : Names L) (o : Bool) : segsL (putL L o) = L := by
  unfold segsL
  rw [pieces_put (names_no h), List.filter_append]
  have : L.filter (fun x => !(x == [])) = L := by
    rw [List.filter_eq_self]
    intro x hx
    simpa using (name_parts (h x hx)).1
  rw [this]
  split <;> simp
theorem put_open {L : List (List UInt8)} (h : Names L) (o : Bool) : openB (putL L o) = (o || L == []) := by
  rw [pieces_open (put_path L o), pieces_put (names_no h)]
  cases hb : (o || L == [])
  · have hL : L ≠ [] := by intro e; rw [e] at hb; simp at hb
    simp only [Bool.false_eq_true, if_false, List.append_nil]
    rw [List.getLast?_eq_some_getLast hL]
    have := (name_parts (h _ (List.getLast_mem hL))).1
    simpa using this
  · simp
theorem clnF_made : ∀ (R K : List (List UInt8)) (o : Bool) (t : List UInt8), (∀ x ∈ R, 47 ∉ x) → Names K → clnF R K o = some t → ∃ K' o', Names K' ∧ t = putL K' o'
  | [], K, o, t, _, hK, h => by
    simp only [clnF, Option.some.injEq] at h
    exact ⟨K, o, hK, h.symm⟩
  | x :: r, K, o, t, hR, hK, h => by
    have hr : ∀ y ∈ r, 47 ∉ y := fun y hy => hR y (List.mem_cons_of_mem _ hy)
    unfold clnF at h
    split at h
    · split at h
      · cases h
      · exact clnF_made r K.dropLast true t hr (fun y hy => hK y (List.dropLast_subset K hy)) h
    · rename_i h1
      split at h
      · exact clnF_made r K true t hr hK h
      · rename_i h2
        refine clnF_made r (K ++ [x]) false t hr (fun y hy => ?_) h
        rcases List.mem_append.1 hy with hy | hy
        · exact hK y hy
        · rw [List.mem_singleton.1 hy]
          refine name_of (fun e => h2 (.inl e)) (hR x (by simp)) ?_
          unfold dotB
          rw [show (x == [46]) = false by simpa using fun e => h2 (.inr e), show (x == [46, 46]) = false by simpa using h1]
          rfl
theorem clnF_names : ∀ (L K : List (List UInt8)) (o b : Bool), Names L → clnF (L ++ if b then [[]] else []) K o = some (putL (K ++ L) (if b then true else if L == [] then o else false))
  | [], K, o, b, _ => by
    cases b
    · simp [clnF]
    · simp [clnF]
  | x :: L, K, o, b, h => by
    obtain ⟨h1, h2, h3⟩ := name_parts (h x (by simp))
    unfold dotB at h3
    rw [Bool.or_eq_false_iff] at h3
    have ih := clnF_names L (K ++ [x]) false b (fun y hy => h y (List.mem_cons_of_mem _ hy))
    rw [List.cons_append, clnF, if_neg (by simpa using h3.2), if_neg (by rintro (e | e); exact h1 e; exact absurd h3.1 (by simp [e])), ih]
    cases b <;> simp
theorem clean_put {L : List (List UInt8)} (h : Names L) (o : Bool) : cleanR (putL L o) = .inr (putL L o) := by
  unfold cleanR
  rw [if_pos (put_path L o), pieces_put (names_no h), clnF_names L [] false (o || L == []) h]
  show Sum.inr _ = _
  congr 1
  rw [List.nil_append]
  cases o
  · cases L with
    | nil => rfl
    | cons x r => rfl
  · rfl
theorem clean_made {p t : List UInt8} (h : cleanR p = .inr t) : ∃ K o, Names K ∧ t = putL K o := by
  unfold cleanR at h
  split at h
  · cases hc : clnF (piecesL p) [] false with
    | none => rw [hc] at h; cases h
    | some u =>
      rw [hc] at h
      injection h with h
      subst h
      exact clnF_made _ [] false u (fun x hx => pieces_no hx) (fun x hx => by cases hx) hc
  · cases h
/-- Cleaning what is normal, or cleaned already, changes nothing. -/
theorem clean_norm {p : List UInt8} (h : normB p = true) : cleanR p = .inr p := by
  have := clean_put (segs_names h) (openB p)
  rwa [norm_put h] at this
theorem clean_again {p t : List UInt8} (h : cleanR p = .inr t) : cleanR t = .inr t ∧ normB t = decide (t.length ≤ 128) := by
  obtain ⟨K, o, hK, rfl⟩ := clean_made h
  exact ⟨clean_put hK o, put_norm hK o⟩
end Go.Proofs.YtjinedeelkdgiaaDoor
namespace Go.Proofs.YtjinedeelkdgiaaDoor
/-- Two slashes one behind the other. -/
def cDD : List UInt8 → Bool
  | [] => false
  | b :: l => ([47, 47] : List UInt8).isPrefixOf (b :: l) || cDD l
theorem contains_DD : ∀ l : List UInt8, Lib.contains l [47, 47] = cDD l
  | [] => rfl
  | b :: l => by
    have ih := contains_DD l
    have hg := Lib.index_ge l [47, 47]
    unfold Lib.contains at ih ⊢
    unfold Lib.index cDD
    cases ([47, 47] : List UInt8).isPrefixOf (b :: l) with
    | true => simp
    | false =>
      rw [Bool.false_or, ← ih]
      by_cases h : Lib.index l [47, 47] = -1
      · rw [h]; rfl
      · rw [if_neg (by simp), if_neg (by simpa using h)]
        rw [decide_eq_decide]
        omega
theorem DD_other {c : UInt8} (hc : c.toNat ≠ 47) (r : List UInt8) : cDD (c :: r) = cDD r := by
  have hb : (47 == c) = false := by
    rw [beq_eq_false_iff_ne]
    rintro rfl
    exact hc rfl
  rw [cDD, List.isPrefixOf, hb]
  rfl
theorem DD_slash (c : UInt8) (r : List UInt8) : cDD (47 :: c :: r) = (47 == c || cDD (c :: r)) := by
  rw [cDD]
  show ((47 == (47 : UInt8)) && ((47 == c) && true) || _) = _
  simp
theorem cut_empty : ∀ (r cur : List UInt8), (cutS cur r).dropLast.any (· == []) = if cur = [] then cDD (47 :: r) else cDD r
  | [], cur => by
    simp only [cutS, List.dropLast_singleton, List.any_nil]
    split <;> rfl
  | c :: r, cur => by
    by_cases hc : c.toNat = 47
    · have h2 : c = 47 := UInt8.toNat_inj.1 hc
      subst h2
      have ih := cut_empty r []
      rw [if_pos rfl] at ih
      rw [cutS, if_pos hc, List.dropLast_cons_of_ne_nil (cutS_ne _ _), List.any_cons, ih]
      by_cases h : cur = []
      · rw [if_pos h, DD_slash, h]
        simp
      · rw [if_neg h]
        simp [h]
    · have ih := cut_empty r (cur ++ [c])
      rw [if_neg (by simp)] at ih
      rw [cutS, if_neg hc, ih]
      have hb : (47 == c) = false := by
        rw [beq_eq_false_iff_ne]
        rintro rfl
        exact hc rfl
      split
      · rw [DD_slash, hb, Bool.false_or, DD_other hc]
      · rw [DD_other hc]
theorem okL_all (R : List (List UInt8)) : okL R = (!(R.dropLast.any (· == [])) && R.all fun x => !dotB x) := by
  rw [Bool.eq_iff_iff, Bool.and_eq_true, Bool.not_eq_true', List.all_eq_true, List.any_eq_false]
  constructor
  · intro h
    exact ⟨fun x hx => by simpa using okL_init R h x hx, fun x hx => by rw [okL_mem R h x hx]; rfl⟩
  · rintro ⟨h1, h2⟩
    exact okL_of R (fun x hx => by simpa using h2 x hx) (fun x hx => by simpa using h1 x hx)
theorem norm_eq (p : List UInt8) : normB p = (decide (p.length ≤ 128) && (pathB p && (!(Lib.contains p [47, 47]) && (piecesL p).all fun x => !dotB x))) := by
  unfold normB
  rw [okL_all, contains_DD]
  cases hp : pathB p with
  | false => simp
  | true =>
    cases p with
    | nil => simp [pathB] at hp
    | cons c r =>
      have hc : c = 47 := UInt8.toNat_inj.1 (by simpa [pathB] using hp)
      subst hc
      have := cut_empty r []
      rw [if_pos rfl] at this
      rw [show piecesL (47 :: r) = cutS [] r from rfl, this]
      simp
end Go.Proofs.YtjinedeelkdgiaaDoor
