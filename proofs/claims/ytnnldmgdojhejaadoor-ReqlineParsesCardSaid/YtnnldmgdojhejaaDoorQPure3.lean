/-
  Lines, purely: a request line is read from its text, and what is read has this text.
-/
import Derived.Test.YtnnldmgdojhejaaDoorQPure2
namespace Go.Proofs.YtnnldmgdojhejaaDoor
open Go.RowKit
theorem spN_free : ∀ {l : List UInt8}, (∀ c ∈ l, c.toNat ≠ 32) → spN l = none
  | [], _ => rfl
  | c :: r, h => by
    rw [spN, if_neg (h c (List.mem_cons_self ..)), spN_free fun x hx => h x (List.mem_cons_of_mem _ hx)]
    rfl
theorem spN_at : ∀ {l : List UInt8} {i : Nat}, spN l = some i → l = l.take i ++ 32 :: l.drop (i + 1)
  | [], i, h => by cases h
  | c :: r, i, h => by
    rw [spN] at h
    by_cases hc : c.toNat = 32
    · rw [if_pos hc] at h
      cases h
      have : c = 32 := UInt8.toNat.inj hc
      rw [this]
      rfl
    · rw [if_neg hc] at h
      cases hr : spN r with
      | none => rw [hr] at h; cases h
      | some j =>
        rw [hr] at h
        cases h
        have := spN_at hr
        show c :: r = c :: (r.take j ++ 32 :: r.drop (j + 1))
        rw [← this]
theorem spN_mid {m r : List UInt8} (h : spN m = none) : spN (m ++ 32 :: r) = some m.length := by
  rw [spN_append, h]
  show (some 0).map (· + m.length) = some m.length
  simp
theorem drop_mid (m r : List UInt8) : (m ++ 32 :: r).drop (m.length + 1) = r := by
  rw [show m ++ 32 :: r = (m ++ [32]) ++ r by simp, show m.length + 1 = (m ++ [32]).length by simp, List.drop_left]
theorem prt2 {m t : List UInt8} (hm : spN m = none) (ht : spN t = none) : prtR (m ++ 32 :: t) = (m, t, [], 2) := by
  rw [prtR_two (spN_mid hm) (by rw [drop_mid]; exact ht), drop_mid, List.take_left]
theorem prt3 {m t v : List UInt8} (hm : spN m = none) (ht : spN t = none) : prtR (m ++ 32 :: (t ++ 32 :: v)) = (m, t, v, 3) := by
  rw [prtR_three (spN_mid hm) (by rw [drop_mid]; exact spN_mid ht), drop_mid, List.take_left, List.take_left]
  rw [show m.length + 1 + t.length + 1 = (m.length + 1) + (t.length + 1) by omega, ← List.drop_drop, drop_mid, drop_mid]
/-- The parts of a line, with spaces between them, are the line. -/
theorem prt_join (l : List UInt8) : ((prtR l).2.2.2 = 1 ∧ (prtR l).1 = l) ∨ ((prtR l).2.2.2 = 2 ∧ (prtR l).1 ++ [32] ++ (prtR l).2.1 = l) ∨ ((prtR l).2.2.2 = 3 ∧ (prtR l).1 ++ [32] ++ (prtR l).2.1 ++ [32] ++ (prtR l).2.2.1 = l) := by
  cases hi : spN l with
  | none =>
    rw [prtR_one hi]
    exact .inl ⟨rfl, rfl⟩
  | some i =>
    have h1 := spN_at hi
    cases hj : spN (l.drop (i + 1)) with
    | none =>
      rw [prtR_two hi hj]
      refine .inr (.inl ⟨rfl, ?_⟩)
      dsimp only
      rw [List.append_assoc]
      exact h1.symm
    | some j =>
      have h2 := spN_at hj
      rw [prtR_three hi hj]
      refine .inr (.inr ⟨rfl, ?_⟩)
      dsimp only
      rw [List.drop_drop] at h2
      rw [show i + 1 + j + 1 = i + 1 + (j + 1) by omega]
      rw [List.append_assoc, List.append_assoc, List.append_assoc]
      show l.take i ++ 32 :: ((l.drop (i + 1)).take j ++ 32 :: l.drop (i + 1 + (j + 1))) = l
      rw [← h2]
      exact h1.symm
theorem isV_all {m : List UInt8} (h : isV m = true) : m.all tokB = true ∧ m ≠ [] := by
  unfold isV at h
  rw [Bool.and_eq_true] at h
  refine ⟨h.1, ?_⟩
  rintro rfl
  exact absurd h.2 (by decide)
theorem isV_of {m : List UInt8} (h : m.all tokB = true) (hn : m ≠ []) : isV m = true := by
  unfold isV
  rw [h, q_empty hn]
  rfl
theorem tok_free {m : List UInt8} (h : m.all tokB = true) : spN m = none := by
  refine spN_free fun c hc h32 => ?_
  have := List.all_eq_true.1 h c hc
  unfold tokB at this
  rw [h32] at this
  revert this
  decide
theorem tgt_free {t : List UInt8} (h : t.all tgB = true) : spN t = none := by
  refine spN_free fun c hc h32 => ?_
  have := List.all_eq_true.1 h c hc
  unfold tgB at this
  rw [h32] at this
  revert this
  decide
theorem all_take {p : UInt8 → Bool} {l : List UInt8} (h : l.all p = true) (k : Nat) : (l.take k).all p = true := List.all_eq_true.2 fun c hc => List.all_eq_true.1 h c (List.mem_of_mem_take hc)
theorem tgtR_ok {t : List UInt8} (h : tgtR t = 0) : t.length ≤ 1024 ∧ t.all tgB = true ∧ slB t = true := by
  unfold tgtR at h
  by_cases c : 1024 < t.length
  · rw [if_pos c] at h
    cases h
  · rw [if_neg c] at h
    by_cases d : (t.all tgB && slB t) = true
    · rw [Bool.and_eq_true] at d
      exact ⟨by omega, d⟩
    · rw [if_neg d] at h
      cases h
theorem tgtR_of {t : List UInt8} (h1 : t.length ≤ 1024) (h2 : t.all tgB = true) (h3 : slB t = true) : tgtR t = 0 := by
  unfold tgtR
  rw [if_neg (by omega), h2, h3]
  rfl
theorem tgtR_take {t : List UInt8} (h : tgtR t = 0) {k : Nat} (hk : t.take k ≠ []) : tgtR (t.take k) = 0 := by
  obtain ⟨h1, h2, h3⟩ := tgtR_ok h
  refine tgtR_of (by rw [List.length_take]; omega) (all_take h2 k) ?_
  cases t with
  | nil => simp at hk
  | cons c r =>
    cases k with
    | zero => simp at hk
    | succ k => exact h3
theorem txtR_ok {m t x : List UInt8} (h : txtR m t = (x, 0)) : m.length ≤ 16 ∧ isV m = true ∧ tgtR t = 0 ∧ x = m ++ 32 :: (t ++ 32 :: verT) := by
  unfold txtR at h
  by_cases c : 16 < m.length ∨ isV m = false
  · rw [if_pos c] at h
    cases h
  · rw [if_neg c] at h
    have c1 : ¬ 16 < m.length := fun h => c (.inl h)
    have c2 : isV m = true := by
      cases hv : isV m
      · exact absurd (.inr hv) c
      · rfl
    by_cases d : tgtR t ≠ 0
    · rw [if_pos d] at h
      exact absurd (congrArg Prod.snd h) d
    · rw [if_neg d] at h
      refine ⟨by omega, c2, Decidable.not_not.1 d, ?_⟩
      have e := congrArg Prod.fst h
      dsimp only at e
      rw [← e]
      simp
theorem txtR_of {m t : List UInt8} (h1 : m.length ≤ 16) (h2 : isV m = true) (h3 : tgtR t = 0) : txtR m t = (m ++ [32] ++ t ++ [32] ++ verT, 0) := by
  unfold txtR
  rw [if_neg (by rintro (h | h); omega; rw [h2] at h; cases h), if_neg (by omega)]
theorem beg_1 {m : List UInt8} (h1 : m.length ≤ 16) (h2 : isV m = true) : begR (m, [], [], 1) = true := by
  unfold begR
  have := (isV_all h2).2
  rw [if_neg (by rintro (h | h); exact absurd h (by dsimp only; omega); exact this h.2)]
  dsimp only
  rw [if_neg (by rw [h2]; decide), if_pos (.inl rfl)]
theorem beg_2 {m t : List UInt8} (h1 : m.length ≤ 16) (h2 : isV m = true) (h3 : t ≠ [] → tgtR t = 0) : begR (m, t, [], 2) = true := by
  unfold begR
  rw [if_neg (by rintro (h | h); exact absurd h (by dsimp only; omega); exact absurd h.1 (by dsimp only; decide))]
  dsimp only
  rw [if_neg (by rw [h2]; decide)]
  by_cases ht : t = []
  · rw [if_pos (.inr ⟨rfl, ht⟩)]
  · rw [if_neg (by rintro (h | h); exact absurd h (by decide); exact ht h.2), if_neg (by rw [h3 ht]; decide)]
    rfl
theorem beg_3 {m t v : List UInt8} (h1 : m.length ≤ 16) (h2 : isV m = true) (h3 : tgtR t = 0) (h4 : v.length ≤ 8) (h5 : verT.take v.length = v) : begR (m, t, v, 3) = true := by
  unfold begR
  rw [if_neg (by rintro (h | h); exact absurd h (by dsimp only; omega); exact absurd h.1 (by dsimp only; decide))]
  dsimp only
  rw [if_neg (by rw [h2]; decide), if_neg (by rintro (h | h); exact absurd h (by decide); exact absurd h.1 (by decide)), if_neg (by rw [h3]; decide), h5, decide_eq_true h4]
  simp
/-- A request line is read from its text. -/
theorem txt_prs {m t x : List UInt8} (h : txtR m t = (x, 0)) : prsR x = ((m, t), 0, x.length) := by
  obtain ⟨h1, h2, h3, rfl⟩ := txtR_ok h
  obtain ⟨g1, g2, g3⟩ := tgtR_ok h3
  have hm := (isV_all h2).1
  have fm := tok_free hm
  have ft := tgt_free g2
  have hp := prt3 (v := verT) fm ft
  have hL : (lngR (m ++ 32 :: (t ++ 32 :: verT))).1 = 0 := by
    unfold lngR
    rw [hp]
    dsimp only
    rw [if_neg (by omega), if_neg (by omega), if_neg (by decide)]
  have hb : badR (m ++ 32 :: (t ++ 32 :: verT)) = none := by
    unfold badR
    refine fb_is_none fun j _ hj => ?_
    by_cases c1 : j + 1 ≤ m.length
    · rw [List.take_append_of_le_length c1]
      have a := all_take hm (j + 1)
      rw [prtR_one (tok_free a)]
      refine beg_1 (by rw [List.length_take]; omega) (isV_of a ?_)
      intro h
      have := congrArg List.length h
      rw [List.length_take, List.length_nil] at this
      omega
    · obtain ⟨k, hk⟩ : ∃ k, j + 1 = m.length + (k + 1) := ⟨j - m.length, by omega⟩
      rw [hk, List.take_length_add_append, List.take_succ_cons]
      by_cases c2 : k ≤ t.length
      · rw [List.take_append_of_le_length c2, prt2 fm (tgt_free (all_take g2 k))]
        exact beg_2 h1 h2 fun hn => tgtR_take h3 hn
      · obtain ⟨i, hi⟩ : ∃ i, k = t.length + (i + 1) := ⟨k - t.length - 1, by omega⟩
        rw [hi, List.take_length_add_append, List.take_succ_cons, prt3 fm ft]
        refine beg_3 h1 h2 h3 (by rw [List.length_take]; exact Nat.min_le_right _ _) ?_
        rw [List.length_take, List.take_eq_take_min]
        rw [List.take_eq_take_min (i := i)]
        congr 1
        show min (min i verT.length) verT.length = min i verT.length
        omega
  rw [prsR_short hL, hb]
  dsimp only
  rw [hp]
  dsimp only
  rw [if_pos rfl]
/-- What is read has this text. -/
theorem prs_txt {l : List UInt8} (h : (prsR l).2.1 = 0) : txtR (prsR l).1.1 (prsR l).1.2 = (l, 0) := by
  obtain ⟨-, hL, hb, hv, hp⟩ := prs_ok h
  rw [hp]
  dsimp only
  have hj := prt_join l
  have hn : (prtR l).2.2.2 = 3 := by
    cases hi : spN l with
    | none =>
      rw [prtR_one hi] at hv
      cases hv
    | some i =>
      cases hi2 : spN (l.drop (i + 1)) with
      | none =>
        rw [prtR_two hi hi2] at hv
        cases hv
      | some j => rw [prtR_three hi hi2]
  rw [hn] at hj
  have hj : (prtR l).1 ++ [32] ++ (prtR l).2.1 ++ [32] ++ verT = l := by
    rcases hj with h | h | h
    · exact absurd h.1 (by decide)
    · exact absurd h.1 (by decide)
    · rw [← hv]
      exact h.2
  have hpos : 0 < l.length := by
    rw [← hj]
    simp
    omega
  have hbeg := fb_none hb (l.length - 1) (Nat.zero_le _) (by omega)
  rw [show l.length - 1 + 1 = l.length by omega, List.take_length] at hbeg
  have hlen : (prtR l).1.length ≤ 16 := by
    unfold lngR at hL
    by_cases c : 16 < (prtR l).1.length
    · rw [if_pos c] at hL
      cases hL
    · omega
  unfold begR at hbeg
  rw [hn, if_neg (by rintro (h | h); omega; exact absurd h.1 (by decide))] at hbeg
  by_cases c1 : isV (prtR l).1 = false
  · rw [if_pos c1] at hbeg
    cases hbeg
  · rw [if_neg c1, if_neg (by rintro (h | h); exact absurd h (by decide); exact absurd h.1 (by decide))] at hbeg
    by_cases c2 : tgtR (prtR l).2.1 ≠ 0
    · rw [if_pos c2] at hbeg
      cases hbeg
    · rw [txtR_of hlen (by simpa using c1) (Decidable.not_not.1 c2), hj]
end Go.Proofs.YtnnldmgdojhejaaDoor
