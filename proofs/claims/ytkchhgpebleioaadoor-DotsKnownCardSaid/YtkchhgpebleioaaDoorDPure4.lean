/-
  Paths, purely: what is made of names, joined, its parent, what it is under, what two paths have in common. No condition.
-/
import Derived.Test.YtkchhgpebleioaaDoorDPure3
import Derived.Test.YtkchhgpebleioaaDoorDProg3
namespace Go.Proofs.YtkchhgpebleioaaDoor
theorem make_names {L : List (List UInt8)} (h : Names L) (o : Bool) (hl : (putL L o).length ≤ 128) : makeR L o = .inr (putL L o) := by
  unfold makeR
  rw [names_all.2 h, if_pos rfl, if_neg (by omega)]
theorem segs_names_put {L : List (List UInt8)} (h : Names L) (o : Bool) (hl : (putL L o).length ≤ 128) : segsR (putL L o) = .inr L := by
  unfold segsR
  rw [put_norm h, decide_eq_true hl, if_pos rfl, put_segs h]
theorem put_nil (o : Bool) : putL [] o = [47] := by simp [putL, flatL]
theorem dir_put {L : List (List UInt8)} (h : Names L) (hl : (putL L false).length ≤ 128) : dirB (putL L false) = true := by
  unfold dirB
  rw [put_norm h, decide_eq_true hl, put_open h, Bool.true_and]
  cases L with
  | nil => rw [put_nil]; rfl
  | cons x r => simp
theorem join_put {L : List (List UInt8)} {y : List UInt8} (h : Names L) (hy : nameB y = true) (hl : (putL L false).length ≤ 128) (hl2 : (putL (L ++ [y]) false).length ≤ 128) : joinR (putL L false) y = .inr (putL (L ++ [y]) false) := by
  unfold joinR
  rw [dir_put h hl, if_pos rfl, put_segs h]
  refine make_names (fun x hx => ?_) false hl2
  rcases List.mem_append.1 hx with hx | hx
  · exact h x hx
  · rw [List.mem_singleton.1 hx]; exact hy
theorem names_snoc {L : List (List UInt8)} {y : List UInt8} (h : Names L) (hy : nameB y = true) : Names (L ++ [y]) := fun x hx => by
  rcases List.mem_append.1 hx with hx | hx
  · exact h x hx
  · rw [List.mem_singleton.1 hx]; exact hy
theorem parent_put {L : List (List UInt8)} {y : List UInt8} (h : Names L) (hy : nameB y = true) (hl2 : (putL (L ++ [y]) false).length ≤ 128) : parentR (putL (L ++ [y]) false) = .inr (putL L false) := by
  unfold parentR
  rw [put_norm (names_snoc h hy), decide_eq_true hl2, if_pos rfl, put_segs (names_snoc h hy), if_neg (by simp), List.dropLast_concat]
theorem pieces_more : ∀ (r : List (List UInt8)) (x : List UInt8) (t : List UInt8), (∀ y ∈ r, 47 ∉ y) → cutS x (flatL r ++ 47 :: t) = (x :: r) ++ cutS [] t
  | [], x, t, _ => by
    rw [flatL, List.nil_append, cutS, if_pos (show UInt8.toNat 47 = 47 from rfl)]
    rfl
  | z :: r, x, t, h => by
    rw [flatL, List.cons_append, cutS, if_pos (show UInt8.toNat 47 = 47 from rfl), List.append_assoc, cut_skip z [] _ (h z (by simp)), List.nil_append, pieces_more r z t (fun y hy => h y (List.mem_cons_of_mem _ hy))]
    rfl
theorem pieces_longer {M : List (List UInt8)} (h : ∀ y ∈ M, 47 ∉ y) (hM : M ≠ []) (t : List UInt8) : piecesL (flatL M ++ 47 :: t) = M ++ cutS [] t := by
  cases M with
  | nil => exact absurd rfl hM
  | cons x r =>
    unfold piecesL
    rw [flatL, List.cons_append, List.drop_one, List.tail_cons, List.append_assoc, cut_skip x [] _ (h x (by simp)), List.nil_append, pieces_more r x t (fun y hy => h y (List.mem_cons_of_mem _ hy))]
theorem flat_ne {M : List (List UInt8)} (h : Names M) (hM : M ≠ []) : (flatL M == [47]) = false := by
  cases M with
  | nil => exact absurd rfl hM
  | cons x r =>
    have hx := (name_parts (h x (by simp))).1
    cases x with
    | nil => exact absurd rfl hx
    | cons c s => simp [flatL]
theorem under_put {L M : List (List UInt8)} (hL : Names L) (hM : Names M) (o : Bool) : underB (putL L o) (putL M false) = M.isPrefixOf L := by
  by_cases h0 : M = []
  · subst h0
    rw [put_nil]
    simp [underB]
  · have hp : putL M false = flatL M := by
      unfold putL
      rw [show (M == []) = false by simpa using h0]
      simp
    rw [Bool.eq_iff_iff, List.isPrefixOf_iff_prefix]
    unfold underB
    rw [hp, flat_ne hM h0, Bool.false_or, Bool.or_eq_true, beq_iff_eq, List.isPrefixOf_iff_prefix]
    constructor
    · rintro (h | ⟨t, h⟩)
      · rw [← hp] at h
        have := congrArg segsL h
        rw [put_segs hL, put_segs hM] at this
        rw [this]
        exact List.prefix_refl _
      · rw [List.append_assoc] at h
        have h2 := congrArg piecesL h
        rw [show ([47] : List UInt8) ++ t = 47 :: t from rfl, pieces_longer (names_no hM) h0, pieces_put (names_no hL)] at h2
        have hne := cutS_ne [] t
        have hlen : M.length ≤ L.length := by
          have h3 := congrArg List.length h2
          rw [List.length_append, List.length_append] at h3
          have h4 : (cutS [] t).length ≠ 0 := fun e => hne (List.eq_nil_of_length_eq_zero e)
          split at h3
          · simp at h3; omega
          · simp at h3; omega
        have h5 : M <+: L ++ (if o || L == [] then [[]] else []) := ⟨_, h2⟩
        exact List.prefix_of_prefix_length_le h5 (List.prefix_append _ _) hlen
    · rintro ⟨N, rfl⟩
      cases N with
      | nil =>
        rw [List.append_nil]
        cases o with
        | false => left; exact hp
        | true => right; exact ⟨[], by unfold putL; simp⟩
      | cons z r =>
        right
        unfold putL
        rw [flat_append, flatL]
        exact ⟨z ++ flatL r ++ (if o || (M ++ z :: r) == [] then [47] else []), by simp⟩
theorem under_put_R {L M : List (List UInt8)} (hL : Names L) (hM : Names M) (o : Bool) (hl : (putL L o).length ≤ 128) (hm : (putL M false).length ≤ 128) : underR (putL L o) (putL M false) = .tuple #[.bool (M.isPrefixOf L), .int .i64 0] := by
  unfold underR
  rw [put_norm hL, decide_eq_true hl, dir_put hM hm, under_put hL hM]
  rfl
theorem com_take : ∀ (X Y : List (List UInt8)), X.take (comN X Y) = Y.take (comN X Y)
  | [], Y => by simp [comN]
  | x :: X, [] => by simp [comN]
  | x :: X, y :: Y => by
    unfold comN
    split
    · rename_i h
      rw [List.take_succ_cons, List.take_succ_cons, com_take X Y, show x = y by simpa using h]
    · simp
theorem com_sym : ∀ (X Y : List (List UInt8)), comN Y X = comN X Y
  | [], Y => by cases Y <;> simp [comN]
  | x :: X, [] => by simp [comN]
  | x :: X, y :: Y => by
    unfold comN
    rw [com_sym X Y]
    by_cases h : x = y
    · subst h; simp
    · rw [if_neg (by simpa using fun e => h e.symm), if_neg (by simpa using h)]
theorem com_max : ∀ (X Y : List (List UInt8)), comN X Y < X.length → (X.take (comN X Y + 1)).isPrefixOf Y = false
  | [], Y, h => by simp at h
  | x :: X, [], _ => by simp [comN]
  | x :: X, y :: Y, h => by
    unfold comN at h ⊢
    by_cases e : (x == y) = true
    · rw [if_pos e] at h ⊢
      rw [List.take_succ_cons, List.isPrefixOf, e, com_max X Y (by simpa using h)]
      rfl
    · rw [if_neg e]
      simp only [Bool.not_eq_true] at e
      simp [List.isPrefixOf, e]
theorem com_names {X : List (List UInt8)} (h : Names X) (k : Nat) : Names (X.take k) := fun x hx => h x (List.take_subset _ _ hx)
theorem common_put {X Y : List (List UInt8)} (hX : Names X) (hY : Names Y) (o1 o2 : Bool) (h1 : (putL X o1).length ≤ 128) (h2 : (putL Y o2).length ≤ 128) : commonR (putL X o1) (putL Y o2) = .inr (putL (X.take (comN X Y)) false) := by
  unfold commonR
  rw [put_norm hX, put_norm hY, decide_eq_true h1, decide_eq_true h2, put_segs hX, put_segs hY]
  rfl
theorem prefix_take (X : List (List UInt8)) (k : Nat) : (X.take k).isPrefixOf X = true := by
  rw [List.isPrefixOf_iff_prefix]
  exact List.take_prefix _ _
theorem prefix_back (X : List (List UInt8)) (k : Nat) (hk : k ≤ X.length) : X.isPrefixOf (X.take k) = (k == X.length) := by
  rw [Bool.eq_iff_iff, List.isPrefixOf_iff_prefix, beq_iff_eq]
  constructor
  · intro h
    have := h.length_le
    rw [List.length_take] at this
    omega
  · intro h
    rw [h, List.take_length]
    exact List.prefix_refl _
end Go.Proofs.YtkchhgpebleioaaDoor
