/-
  What the program's Parse answers is what the document's answers say, purely.
-/
import Derived.Test.YtnnldmgdojhejaaDoorQPParse
import Derived.Test.YtnnldmgdojhejaaDoorQPure3
namespace Go.Proofs.YtnnldmgdojhejaaDoor
open Go.RowKit
theorem hp_cons (c d : UInt8) (r : List UInt8) : Lib.hasPrefix (d :: r) [c] = (c == d) := by
  unfold Lib.hasPrefix
  simp [List.isPrefixOf]
theorem pre_take : ∀ l : List UInt8, (l.take (pre l)).all tokB = true
  | [] => rfl
  | c :: r => by
    unfold pre
    by_cases h : tokB c = true
    · rw [if_pos h, List.take_succ_cons, List.all_cons, h, pre_take r]
      rfl
    · rw [if_neg h]
      rfl
theorem pre_next : ∀ (l : List UInt8) (c : UInt8) (r : List UInt8), l.drop (pre l) = c :: r → tokB c = false
  | [], c, r, h => by cases h
  | a :: l, c, r, h => by
    unfold pre at h
    by_cases ha : tokB a = true
    · rw [if_pos ha, List.drop_succ_cons] at h
      exact pre_next l c r h
    · rw [if_neg ha] at h
      cases h
      exact Bool.eq_false_iff.2 ha
theorem ld_take : ∀ l : List UInt8, (l.take (ldN l)).all tgB = true
  | [] => rfl
  | c :: r => by
    unfold ldN
    by_cases h : tgB c = true
    · rw [if_pos h, List.take_succ_cons, List.all_cons, h, ld_take r]
      rfl
    · rw [if_neg h]
      rfl
theorem ld_next : ∀ (l : List UInt8) (c : UInt8) (r : List UInt8), l.drop (ldN l) = c :: r → tgB c = false
  | [], c, r, h => by cases h
  | a :: l, c, r, h => by
    unfold ldN at h
    by_cases ha : tgB a = true
    · rw [if_pos ha, List.drop_succ_cons] at h
      exact ld_next l c r h
    · rw [if_neg ha] at h
      cases h
      exact Bool.eq_false_iff.2 ha
theorem mt_one {c : UInt8} {r : List UInt8} (h : mtN [c] r = 1) : ∃ x, r = c :: x := by
  cases r with
  | nil => cases h
  | cons d r =>
    unfold mtN at h
    rw [hp_cons] at h
    by_cases e : (c == d) = true
    · exact ⟨r, by rw [beq_iff_eq.1 e]⟩
    · rw [if_neg e] at h
      cases h
theorem mt_zero {c d : UInt8} {r : List UInt8} (h : mtN [c] (d :: r) = 0) : d ≠ c := by
  rintro rfl
  unfold mtN at h
  rw [hp_cons, if_pos (beq_self_eq_true d)] at h
  cases h
theorem mt_eq : ∀ (x v : List UInt8), x.take (mtN x v) = v.take (mtN x v)
  | [], v => by simp [mtN]
  | c :: x, [] => by
    have : mtN (c :: x) [] = 0 := rfl
    rw [this]
    rfl
  | c :: x, d :: v => by
    unfold mtN
    rw [hp_cons]
    by_cases e : (c == d) = true
    · rw [if_pos e, List.take_succ_cons, List.take_succ_cons, beq_iff_eq.1 e, List.drop_succ_cons, List.drop_zero, mt_eq x v]
    · rw [if_neg e]
      rfl
theorem mt_next : ∀ (x v : List UInt8) (d : UInt8) (r : List UInt8), mtN x v < x.length → v.drop (mtN x v) = d :: r → x.take (mtN x v + 1) ≠ v.take (mtN x v + 1)
  | [], v, d, r, h, _ => absurd h (Nat.not_lt_zero _)
  | c :: x, [], d, r, _, h => by
    have : mtN (c :: x) [] = 0 := rfl
    rw [this] at h
    cases h
  | c :: x, a :: v, d, r, h, h2 => by
    unfold mtN at h h2 ⊢
    rw [hp_cons] at h h2 ⊢
    by_cases e : (c == a) = true
    · rw [if_pos e, List.drop_succ_cons, List.drop_zero, List.length_cons] at h
      rw [if_pos e, List.drop_succ_cons, List.drop_succ_cons, List.drop_zero] at h2
      rw [if_pos e, List.drop_succ_cons, List.drop_zero, List.take_succ_cons, List.take_succ_cons]
      intro q
      exact mt_next x v d r (by omega) h2 (List.cons.inj q).2
    · rw [if_neg e]
      intro q
      simp at q
      rw [q] at e
      exact e (beq_self_eq_true a)
/-- A fault at a place. -/
theorem prs_fault {l : List UInt8} (h : (lngR l).1 = 0) {p : Nat} (hp : p ≤ l.length) (h1 : ∀ j, j < p → begR (prtR (l.take (j + 1))) = true) (h2 : p < l.length → begR (prtR (l.take (p + 1))) = false) (h3 : p = l.length → (prtR l).2.2.1 ≠ verT) : prsR l = (([], []), 400, p) := by
  rw [prsR_short h]
  by_cases hl : p < l.length
  · have : badR l = some p := fb_is_some (Nat.zero_le _) (by omega) (h2 hl) fun j _ hj => h1 j hj
    rw [this]
  · have hpl : p = l.length := by omega
    have : badR l = none := fb_is_none fun j _ hj => h1 j (by omega)
    rw [this]
    dsimp only
    rw [if_neg (h3 hpl), hpl]
theorem take_mid (m r : List UInt8) (k : Nat) : (m ++ 32 :: r).take (m.length + 1 + k) = m ++ 32 :: r.take k := by
  rw [List.take_append, List.take_of_length_le (by omega), show m.length + 1 + k - m.length = k + 1 by omega, List.take_succ_cons]
theorem take_mid0 (m r : List UInt8) (k : Nat) (h : k ≤ m.length) : (m ++ r).take k = m.take k := List.take_append_of_le_length h
/-- The bytes of the method. -/
theorem beg_m {m x : List UInt8} (h1 : m.length ≤ 16) (h2 : m.all tokB = true) {j : Nat} (hj : j < m.length) : begR (prtR ((m ++ x).take (j + 1))) = true := by
  rw [take_mid0 _ _ _ (by omega), prtR_one (tok_free (all_take h2 _))]
  refine beg_1 (by rw [List.length_take]; omega) (isV_of (all_take h2 _) ?_)
  intro e
  have := congrArg List.length e
  rw [List.length_take, List.length_nil] at this
  omega
/-- The space behind the method, and the bytes of the target. -/
theorem beg_t {m t x : List UInt8} (h1 : m.length ≤ 16) (h2 : isV m = true) (ht : t ≠ [] → tgtR t = 0) {j : Nat} (hj1 : m.length ≤ j) (hj : j < m.length + 1 + t.length) : begR (prtR ((m ++ 32 :: (t ++ x)).take (j + 1))) = true := by
  obtain ⟨k, rfl⟩ : ∃ k, j = m.length + k := ⟨j - m.length, by omega⟩
  rw [show m.length + k + 1 = m.length + 1 + k by omega, take_mid, take_mid0 _ _ _ (by omega)]
  have htk : t.take k ≠ [] → tgtR (t.take k) = 0 := fun h => tgtR_take (ht (by rintro rfl; simp at h)) h
  have hfree : spN (t.take k) = none := by
    by_cases e : t.take k = []
    · rw [e]
      rfl
    · exact tgt_free (tgtR_ok (htk e)).2.1
  rw [prt2 (tok_free (isV_all h2).1) hfree]
  exact beg_2 h1 h2 htk
/-- The space behind the target, and the bytes of the version. -/
theorem beg_v {m t v : List UInt8} (h1 : m.length ≤ 16) (h2 : isV m = true) (ht : tgtR t = 0) {b : Nat} (hb : b ≤ 8) (hv : verT.take b = v.take b) {j : Nat} (hj1 : m.length + 1 + t.length ≤ j) (hj : j < m.length + 1 + t.length + 1 + b) : begR (prtR ((m ++ 32 :: (t ++ 32 :: v)).take (j + 1))) = true := by
  obtain ⟨k, rfl⟩ : ∃ k, j = m.length + 1 + t.length + k := ⟨j - (m.length + 1 + t.length), by omega⟩
  rw [show m.length + 1 + t.length + k + 1 = m.length + 1 + (t.length + 1 + k) by omega, take_mid, take_mid, prt3 (tok_free (isV_all h2).1) (tgt_free (tgtR_ok ht).2.1)]
  have hvk : verT.take k = v.take k := by
    have := congrArg (List.take k) hv
    rw [List.take_take, List.take_take, show min k b = k by omega] at this
    exact this
  have hlen : (v.take k).length = k := by
    rw [← hvk, List.length_take]
    show min k 8 = k
    omega
  exact beg_3 h1 h2 ht (by omega) (by rw [hlen]; exact hvk)
theorem len_m {l : List UInt8} (h : (lngR l).1 = 0) : (prtR l).1.length ≤ 16 ∧ (prtR l).2.1.length ≤ 1024 := by
  unfold lngR at h
  by_cases h1 : 16 < (prtR l).1.length
  · rw [if_pos h1] at h
    cases h
  · rw [if_neg h1] at h
    by_cases h2 : 1024 < (prtR l).2.1.length
    · rw [if_pos h2] at h
      cases h
    · omega
/-- Space-free text at the beginning is within the first part. -/
theorem spN_pre {m x : List UInt8} (hm : spN m = none) : match spN (m ++ x) with | none => True | some i => m.length ≤ i := by
  rw [spN_append, hm]
  cases spN x with
  | none => trivial
  | some j =>
    show m.length ≤ j + m.length
    omega
theorem first_le {m x : List UInt8} (hm : spN m = none) : m.length ≤ (prtR (m ++ x)).1.length := by
  have h := spN_pre (x := x) hm
  cases hs : spN (m ++ x) with
  | none =>
    rw [prtR_one hs]
    simp
  | some i =>
    rw [hs] at h
    dsimp only at h
    have hi := spN_lt hs
    have : (prtR (m ++ x)).1 = (m ++ x).take i := by
      cases h2 : spN ((m ++ x).drop (i + 1)) with
      | none => rw [prtR_two hs h2]
      | some j => rw [prtR_three hs h2]
    rw [this, List.length_take]
    omega
theorem second_le {m t x : List UInt8} (hm : spN m = none) (ht : spN t = none) : t.length ≤ (prtR (m ++ 32 :: (t ++ x))).2.1.length := by
  have hs : spN (m ++ 32 :: (t ++ x)) = some m.length := spN_mid hm
  have hd := drop_mid m (t ++ x)
  have h := spN_pre (x := x) ht
  cases h2 : spN (t ++ x) with
  | none =>
    rw [prtR_two hs (by rw [hd]; exact h2), hd]
    simp
  | some j =>
    rw [h2] at h
    dsimp only at h
    have hj := spN_lt h2
    rw [prtR_three hs (by rw [hd]; exact h2), hd]
    dsimp only
    rw [List.length_take]
    omega
theorem beg_no_m {m : List UInt8} (hn : m ≠ []) (h : isV m = false) : begR (m, [], [], 1) = false := by
  unfold begR
  by_cases c : 16 < m.length ∨ (1 = 1 ∧ m = [])
  · rw [if_pos c]
    dsimp only
    rw [q_empty hn]
    rfl
  · rw [if_neg c, if_pos h]
theorem beg_no_t {m t v : List UInt8} {k : Nat} (hk : k = 2 ∨ k = 3) (ht : tgtR t ≠ 0) (hn : k = 2 → t ≠ []) : begR (m, t, v, k) = false := by
  unfold begR
  by_cases c : 16 < m.length ∨ (k = 1 ∧ m = [])
  · rw [if_pos c]
    have : (k == 1) = false := by rw [beq_eq_false_iff_ne]; omega
    rw [this]
    rfl
  · rw [if_neg c]
    by_cases h : isV m = false
    · rw [if_pos h]
    · rw [if_neg h, if_neg (by rintro (h | h); exact absurd h (by dsimp only; omega); exact hn h.1 h.2), if_pos ht]
theorem beg_no_v {m t v : List UInt8} (h : ¬(v.length ≤ 8 ∧ verT.take v.length = v)) : begR (m, t, v, 3) = false := by
  unfold begR
  by_cases c : 16 < m.length ∨ (3 = 1 ∧ m = [])
  · rw [if_pos c]
    rfl
  · rw [if_neg c]
    by_cases h1 : isV m = false
    · rw [if_pos h1]
    · rw [if_neg h1, if_neg (by rintro (h | h); exact absurd h (by dsimp only; decide); exact absurd h.1 (by dsimp only; decide))]
      by_cases h2 : tgtR t ≠ 0
      · rw [if_pos h2]
      · rw [if_neg h2]
        dsimp only
        rw [show ((3 : Nat) == 2) = false from rfl, Bool.false_or, Bool.and_eq_false_iff]
        by_cases h3 : v.length ≤ 8
        · refine .inr ?_
          rw [beq_eq_false_iff_ne]
          exact fun e => h ⟨h3, e⟩
        · exact .inl (decide_eq_false h3)
theorem ver_nil (p q : List UInt8) (k : Nat) : (p, q, ([] : List UInt8), k).2.2.1 ≠ verT := by
  intro h
  cases h
theorem isV_no {m : List UInt8} {d : UInt8} (h : tokB d = false) : isV (m ++ [d]) = false := by
  unfold isV
  rw [List.all_append, List.all_cons, h]
  simp
theorem spN_snoc {m : List UInt8} {d : UInt8} (hm : spN m = none) (h : d.toNat ≠ 32) : spN (m ++ [d]) = none := by
  rw [spN_append, hm, spN, if_neg h]
  rfl
theorem tgtR_no {t : List UInt8} {d : UInt8} (h : tgB d = false) : tgtR (t ++ [d]) ≠ 0 := by
  intro e
  have := (tgtR_ok e).2.1
  rw [List.all_append, List.all_cons, h] at this
  simp at this
theorem n32 {d : UInt8} (h : d ≠ 32) : d.toNat ≠ 32 := fun e => h (UInt8.toNat_inj.1 e)
theorem prsP_eq (l : List UInt8) : prsP l = prsR l := by
  unfold prsP
  by_cases hL : (lngR l).1 = 0
  rotate_left
  · rw [if_pos hL, prsR_long hL]
  rw [if_neg (not_not_intro hL)]
  obtain ⟨l1, l2⟩ := len_m hL
  have hm := pre_take l
  have hnl := pre_le l
  have hnx := pre_next l
  obtain ⟨m, hme⟩ : ∃ m, l.take (pre l) = m := ⟨_, rfl⟩
  obtain ⟨x, hx⟩ : ∃ x, l.drop (pre l) = x := ⟨_, rfl⟩
  have hl : l = m ++ x := by rw [← hme, ← hx, List.take_append_drop]
  have hml : pre l = m.length := by rw [← hme, List.length_take]; omega
  rw [hme] at hm
  rw [hx] at hnx
  have hm16 : m.length ≤ 16 := by
    have := first_le (x := x) (tok_free hm)
    rw [← hl] at this
    omega
  by_cases h0 : pre l = 0
  · have hr : rdM l = (false, 0, []) := by unfold rdM; rw [if_pos h0]
    rw [hr, if_pos rfl]
    symm
    have hm0 : m = [] := List.eq_nil_of_length_eq_zero (by omega)
    rw [hm0, List.nil_append] at hl
    refine prs_fault hL (Nat.zero_le _) (fun j hj => absurd hj (Nat.not_lt_zero _)) (fun hlt => ?_) (fun he => ?_)
    · cases x with
      | nil => rw [hl] at hlt; exact absurd hlt (Nat.lt_irrefl _)
      | cons c r =>
        have hc := hnx c r rfl
        rw [hl, List.take_succ_cons, List.take_zero]
        by_cases h32 : c.toNat = 32
        · have : c = 32 := UInt8.toNat_inj.1 h32
          rw [this]
          decide
        · rw [prtR_one (show spN [c] = none by rw [spN, if_neg h32]; rfl)]
          exact beg_no_m (by simp) (isV_no (m := []) hc)
    · have : l = [] := List.eq_nil_of_length_eq_zero he.symm
      rw [this]
      decide
  have hmn : m ≠ [] := by
    rintro rfl
    exact h0 hml
  have hV : isV m = true := isV_of hm hmn
  have hmf := tok_free hm
  have hr : rdM l = (decide (mtN [32] x = 1), m.length + mtN [32] x, m) := by unfold rdM; rw [if_neg h0, hx, hme, hml]
  rcases mt1 32 x with h32 | h32
  · rw [hr, h32, if_pos (by rfl), Nat.add_zero]
    dsimp only
    symm
    refine prs_fault hL (by rw [hl, List.length_append]; omega) (fun j hj => by rw [hl]; exact beg_m hm16 hm hj) (fun hlt => ?_) (fun he => ?_)
    · cases x with
      | nil => rw [hl, List.append_nil] at hlt; exact absurd hlt (Nat.lt_irrefl _)
      | cons d r =>
        have hd := hnx d r rfl
        have h3 := mt_zero h32
        have e : l.take (m.length + 1) = m ++ [d] := by
          rw [hl, List.take_append, List.take_of_length_le (by omega), show m.length + 1 - m.length = 1 by omega]
          rfl
        rw [e, prtR_one (spN_snoc hmf (n32 h3))]
        exact beg_no_m (by simp) (isV_no hd)
    · have hx0 : x = [] := by
        rw [hl, List.length_append] at he
        exact List.eq_nil_of_length_eq_zero (by omega)
      rw [hl, hx0, List.append_nil, prtR_one hmf]
      exact ver_nil _ _ _
  obtain ⟨r, rfl⟩ := mt_one h32
  rw [h32] at hr
  rw [hr]
  dsimp only
  rw [if_neg (by decide)]
  have hdr : l.drop (m.length + 1) = r := by rw [hl]; exact drop_mid m r
  rcases mt1 47 r with h47 | h47
  · have ht : rdT l (m.length + 1) = (false, m.length + 1, []) := by unfold rdT; rw [hdr, if_neg (by omega)]
    rw [ht, if_pos rfl]
    dsimp only
    symm
    refine prs_fault hL (by rw [hl, List.length_append, List.length_cons]; omega) (fun j hj => ?_) (fun hlt => ?_) (fun he => ?_)
    · rw [hl]
      by_cases hj2 : j < m.length
      · exact beg_m hm16 hm hj2
      · exact beg_t (t := []) hm16 hV (fun h => absurd rfl h) (by omega) (by simp; omega)
    · cases r with
      | nil => rw [hl, List.length_append] at hlt; exact absurd hlt (by simp)
      | cons d r =>
        have h3 := mt_zero h47
        rw [hl, take_mid]
        show begR (prtR (m ++ 32 :: [d])) = false
        by_cases hd : d = 32
        · rw [hd]
          have := prt3 (m := m) (t := []) (v := []) hmf rfl
          rw [List.nil_append] at this
          rw [this]
          exact beg_no_t (.inr rfl) (by decide) (fun h => absurd h (by decide))
        · rw [prt2 hmf (show spN [d] = none by rw [spN, if_neg (n32 hd)]; rfl)]
          refine beg_no_t (.inl rfl) (fun e => ?_) (fun _ => by simp)
          have := (tgtR_ok e).2.2
          exact h3 (UInt8.toNat_inj.1 (beq_iff_eq.1 this))
    · have hr0 : r = [] := by
        rw [hl, List.length_append, List.length_cons] at he
        exact List.eq_nil_of_length_eq_zero (by omega)
      rw [hl, hr0, prt2 hmf rfl]
      exact ver_nil _ _ _
  obtain ⟨r, rfl⟩ := mt_one h47
  have htk := ld_take r
  have htn := ld_next r
  have hrl := ldN_le r
  obtain ⟨y, hy⟩ : ∃ y, r.drop (ldN r) = y := ⟨_, rfl⟩
  obtain ⟨t, hte⟩ : ∃ t, 47 :: r.take (ldN r) = t := ⟨_, rfl⟩
  have htl : t.length = ldN r + 1 := by rw [← hte, List.length_cons, List.length_take]; omega
  have hrt : 47 :: r = t ++ y := by rw [← hte, ← hy, List.cons_append, List.take_append_drop]
  have hta : t.all tgB = true := by rw [← hte, List.all_cons, htk]; rfl
  have hts : slB t = true := by rw [← hte]; rfl
  rw [hrt] at hl hdr
  have htf := tgt_free hta
  have ht1 : t.length ≤ 1024 := by
    have := second_le (x := y) hmf htf
    rw [← hl] at this
    omega
  have htg : tgtR t = 0 := tgtR_of ht1 hta hts
  have hdr2 : l.drop (m.length + 1 + 1) = r := by
    rw [← List.drop_drop, hdr, ← hrt]
    rfl
  have hEnd : tEnd l (m.length + 1) = m.length + 1 + t.length := by
    unfold tEnd
    rw [hdr2]
    omega
  have hdy : l.drop (m.length + 1 + t.length) = y := by rw [← List.drop_drop, hdr, List.drop_left]
  have hct : (l.take (m.length + 1 + t.length)).drop (m.length + 1) = t := by
    rw [List.drop_take, hdr, show m.length + 1 + t.length - (m.length + 1) = t.length by omega, List.take_left]
  have hrT : rdT l (m.length + 1) = (decide (mtN [32] y = 1), m.length + 1 + t.length + mtN [32] y, t) := by
    unfold rdT
    rw [hdr, ← hrt, if_pos h47, hEnd, hdy, hct]
  have htg' : t ≠ [] → tgtR t = 0 := fun _ => htg
  rw [hy] at htn
  rcases mt1 32 y with hs | hs
  · rw [hrT, hs, if_pos (by rfl), Nat.add_zero]
    dsimp only
    symm
    refine prs_fault hL (by rw [hl]; simp; omega) (fun j hj => ?_) (fun hlt => ?_) (fun he => ?_)
    · rw [hl]
      by_cases hj2 : j < m.length
      · exact beg_m hm16 hm hj2
      · exact beg_t hm16 hV htg' (by omega) (by omega)
    · cases y with
      | nil => rw [hl] at hlt; simp at hlt; omega
      | cons d v =>
        have hd := htn d v rfl
        have h3 := mt_zero hs
        have e : l.take (m.length + 1 + t.length + 1) = m ++ 32 :: (t ++ [d]) := by
          rw [hl, show m.length + 1 + t.length + 1 = m.length + 1 + (t.length + 1) by omega, take_mid, List.take_append, List.take_of_length_le (by omega), show t.length + 1 - t.length = 1 by omega]
          rfl
        rw [e, prt2 hmf (spN_snoc htf (n32 h3))]
        exact beg_no_t (.inl rfl) (tgtR_no hd) (fun _ => by simp)
    · have hy0 : y = [] := by
        rw [hl] at he
        simp at he
        exact List.eq_nil_of_length_eq_zero (by omega)
      rw [hl, hy0, List.append_nil, prt2 hmf htf]
      exact ver_nil _ _ _
  obtain ⟨v, rfl⟩ := mt_one hs
  rw [hs] at hrT
  rw [hrT]
  dsimp only
  rw [if_neg (by decide)]
  have hdv : l.drop (m.length + 1 + t.length + 1) = v := by
    rw [← List.drop_drop, hdy]
    rfl
  have hb8 := mtN_le verT v
  have hbv := mtN_le2 verT v
  have hbe := mt_eq verT v
  have hbn := mt_next verT v
  obtain ⟨b, hb⟩ : ∃ b, mtN verT v = b := ⟨_, rfl⟩
  have hb8' : b ≤ 8 := by rw [hb] at hb8; exact hb8
  have hdvb : l.drop (m.length + 1 + t.length + 1 + b) = v.drop b := by rw [← List.drop_drop, hdv]
  have hrV : rdV l (m.length + 1 + t.length + 1) = (decide (b = 8) && (v.drop b).isEmpty, m.length + 1 + t.length + 1 + b) := by
    unfold rdV
    rw [hdv, hb, hdvb]
  rw [hb] at hbv hbe hbn
  have hll : l.length = m.length + 1 + t.length + 1 + v.length := by
    rw [hl]
    simp
    omega
  rw [hrV]
  dsimp only
  by_cases hg : b = 8 ∧ v.drop b = []
  · rw [if_neg (by rw [hg.2, decide_eq_true hg.1]; decide)]
    have hv8 : v.length = 8 := by
      have := congrArg List.length hg.2
      rw [List.length_drop, List.length_nil] at this
      omega
    have hv : v = verT := by
      have : verT.take 8 = v.take 8 := by rw [← hg.1]; exact hbe
      rw [List.take_of_length_le (by decide), List.take_of_length_le (by omega)] at this
      exact this.symm
    have hx : txtR m t = (l, 0) := by
      rw [txtR_of hm16 hV htg, hl, hv]
      simp
    rw [txt_prs hx, hll, hg.1, hv8]
  · have hfalse : (decide (b = 8) && (v.drop b).isEmpty) = false := by
      rw [Bool.and_eq_false_iff]
      by_cases h8 : b = 8
      · exact .inr (q_empty fun e => hg ⟨h8, e⟩)
      · exact .inl (decide_eq_false h8)
    rw [if_pos hfalse]
    symm
    refine prs_fault hL (by omega) (fun j hj => ?_) (fun hlt => ?_) (fun he => ?_)
    · rw [hl]
      by_cases hj2 : j < m.length
      · exact beg_m hm16 hm hj2
      · by_cases hj3 : j < m.length + 1 + t.length
        · exact beg_t hm16 hV htg' (by omega) hj3
        · exact beg_v hm16 hV htg hb8' hbe (by omega) hj
    · have e : l.take (m.length + 1 + t.length + 1 + b + 1) = m ++ 32 :: (t ++ 32 :: v.take (b + 1)) := by
        rw [hl, show m.length + 1 + t.length + 1 + b + 1 = m.length + 1 + (t.length + 1 + (b + 1)) by omega, take_mid, take_mid]
      rw [e, prt3 hmf htf]
      have hvl : (v.take (b + 1)).length = b + 1 := by rw [List.length_take]; omega
      refine beg_no_v fun h => ?_
      rw [hvl] at h
      obtain ⟨d, z, hdz⟩ : ∃ d z, v.drop b = d :: z := by
        cases hz : v.drop b with
        | nil =>
          have := congrArg List.length hz
          rw [List.length_drop, List.length_nil] at this
          omega
        | cons d z => exact ⟨d, z, rfl⟩
      exact hbn d z (by show b < 8; omega) hdz h.2
    · rw [hl, prt3 hmf htf]
      dsimp only
      intro hv
      have hv8 : v.length = 8 := by rw [hv]; rfl
      refine hg ⟨by omega, ?_⟩
      exact List.drop_eq_nil_of_le (by omega)
theorem rparse_any (l : List UInt8) (hl : l.length < 100000) (w : World) :
    Calls Tryd.prog 13 #[.string ⟨l.toArray⟩] w fun e w' => e = .returned (prsW (prsR l)) ∧ Below w.heap.size w w' := by
  rw [← prsP_eq]
  exact rparse0_any l hl w
end Go.Proofs.YtnnldmgdojhejaaDoor
