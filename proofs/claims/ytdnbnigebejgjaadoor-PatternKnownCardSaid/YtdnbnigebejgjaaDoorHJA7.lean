/-
  The text of a pattern is a pattern of the grammar: a set that is not empty is written as itself.
-/
import Derived.Test.YtdnbnigebejgjaaDoorHJA3
import Derived.Test.YtdnbnigebejgjaaDoorHA4
namespace Go.Proofs.YtdnbnigebejgjaaDoor
open Go.RowKit
theorem gib_mem (c : UInt8) : ∀ l : List UInt8, (0 ≤ Lib.indexByte l c) ↔ c ∈ l
  | [] => by simp [Lib.indexByte]
  | b :: l => by
    have ih := gib_mem c l
    have hg := Lib.indexByte_ge l c
    unfold Lib.indexByte
    by_cases h : b = c
    · subst h; simp
    · have h1 : (b == c) = false := by simpa using h
      have h2 : c ≠ b := Ne.symm h
      rw [h1]
      simp only [Bool.false_eq_true, if_false, List.mem_cons, h2, false_or, ← ih]
      by_cases e : Lib.indexByte l c = -1
      · simp [e]
      · have : (Lib.indexByte l c == -1) = false := by simpa using e
        rw [this]
        simp only [Bool.false_eq_true, if_false]
        omega
theorem quo_yes {m : List UInt8} {b : UInt8} (h : b ∈ m) : quo m b = [92, b] := by
  unfold quo
  rw [if_pos ((gib_mem b m).2 h)]
theorem quo_no {m : List UInt8} {b : UInt8} (h : b ∉ m) : quo m b = [b] := by
  unfold quo
  rw [if_neg (fun k => h ((gib_mem b m).1 k))]
theorem quo_cb (b : UInt8) : GCb (quo [94, 93, 45, 92] b) b := by
  by_cases h : b ∈ ([94, 93, 45, 92] : List UInt8)
  · rw [quo_yes h]
    refine .inr ⟨rfl, ?_, ?_⟩ <;> rintro rfl <;> revert h <;> decide
  · rw [quo_no h]
    simp at h
    exact .inl ⟨rfl, h.2.1, h.2.2.1, h.2.2.2⟩
theorem quo_head (b : UInt8) : (quo [94, 93, 45, 92] b).head? ≠ some 94 := by
  by_cases h : b ∈ ([94, 93, 45, 92] : List UInt8)
  · rw [quo_yes h]; simp
  · rw [quo_no h]
    simp at h
    simpa using h.1
theorem gels_app {x : List UInt8} {w w1 : WSet} (h : GEls x w w1) : ∀ {y : List UInt8} {w2 : WSet}, GEls y w1 w2 → GEls (x ++ y) w w2 := by
  induction h with
  | nil w => exact fun h => h
  | cons x y w v w' g1 g2 ih =>
    intro z w2 h
    rw [List.append_assoc]
    exact .cons _ _ _ _ _ g1 (ih h)
theorem gels_one {x : List UInt8} {v : WSet} (h : GEl x v) (w : WSet) : GEls x w (w.or v) := by
  have := GEls.cons x [] w v _ h (.nil _)
  rwa [List.append_nil] at this
theorem toNat_of {n : Nat} (h : n < 256) : (UInt8.ofNat n).toNat = n := by simp; omega
theorem has_ofW {n b : Nat} (h : n < 256) (hb : b < 256) : (ofW (UInt8.ofNat n)).has b = decide (b = n) := by
  unfold ofW
  rw [toNat_of h, has_add _ _ _ h hb, has_empty, Bool.false_or]
theorem run_els {a n : Nat} (h1 : 1 ≤ n) (h2 : a + n ≤ 256) (w : WSet) : ∃ w', GEls (runT (a, a + n - 1)) w w' ∧ ∀ b, b < 256 → w'.has b = (w.has b || decide (a ≤ b ∧ b < a + n)) := by
  unfold runT
  dsimp only
  by_cases e1 : n = 1
  · subst e1
    rw [if_neg (by omega), if_neg (by omega), List.append_nil, List.append_nil]
    refine ⟨_, gels_one (.inr (.inr (.inl ⟨_, quo_cb _, rfl⟩))) w, fun b hb => ?_⟩
    rw [has_or, has_ofW (by omega) hb]
    congr 1
    rw [decide_eq_decide]
    omega
  · by_cases e2 : n = 2
    · subst e2
      rw [if_neg (by omega), if_pos (by omega), List.nil_append]
      refine ⟨_, gels_app (gels_one (.inr (.inr (.inl ⟨_, quo_cb _, rfl⟩))) w) (gels_one (.inr (.inr (.inl ⟨_, quo_cb _, rfl⟩))) _), fun b hb => ?_⟩
      rw [has_or, has_or, has_ofW (by omega) hb, has_ofW (by omega) hb, Bool.or_assoc, ← Bool.decide_or]
      congr 1
      rw [decide_eq_decide]
      omega
    · rw [if_pos (by omega), if_pos (by omega)]
      refine ⟨_, gels_one (.inr (.inr (.inr ⟨_, _, _, _, rfl, quo_cb _, quo_cb _, ?_, rfl⟩))) w, fun b hb => ?_⟩
      · rw [toNat_of (by omega), toNat_of (by omega)]; omega
      · unfold spanW
        rw [toNat_of (by omega), toNat_of (by omega), if_pos (by omega), has_or, has_or, has_empty, Bool.false_or, has_spanTo _ _ _ (by omega) hb]
        congr 1
        rw [decide_eq_decide]
        omega
theorem runN_step (l : List Nat) : ∀ (f n : Nat), (∀ i, 1 ≤ i → i < n → l.getD i 0 = (l.getD (i - 1) 0 + 1) % 256) → ∀ i, 1 ≤ i → i < runN l f n → l.getD i 0 = (l.getD (i - 1) 0 + 1) % 256
  | 0, n, h => h
  | f + 1, n, h => by
    unfold runN
    split
    · rename_i hh
      refine runN_step l f (n + 1) (fun i hi hn => ?_)
      by_cases e : i = n
      · rw [e]; exact hh.2
      · exact h i hi (by omega)
    · exact h
theorem asc_lt {l : List Nat} (h : l.Pairwise (· < ·)) {i j : Nat} (hij : i < j) (hj : j < l.length) : l.getD i 0 < l.getD j 0 := by
  rw [List.getD_eq_getElem?_getD, List.getD_eq_getElem?_getD, List.getElem?_eq_getElem hj, List.getElem?_eq_getElem (by omega)]
  exact List.pairwise_iff_getElem.1 h i j _ _ hij
theorem getD_mem {l : List Nat} {i : Nat} (h : i < l.length) : l.getD i 0 ∈ l := by
  rw [List.getD_eq_getElem?_getD, List.getElem?_eq_getElem h]
  exact List.getElem_mem h
theorem runs_els : ∀ (f : Nat) (l : List Nat), l.Pairwise (· < ·) → (∀ x ∈ l, x < 256) → l.length ≤ f → ∀ w, ∃ w', GEls ((runsF f l).flatMap runT) w w' ∧ ∀ b, b < 256 → w'.has b = (w.has b || decide (b ∈ l))
  | 0, l, _, _, hl, w => by
    obtain rfl : l = [] := List.eq_nil_of_length_eq_zero (by omega)
    exact ⟨w, .nil w, fun b _ => by simp⟩
  | f + 1, l, hp, hx, hl, w => by
    unfold runsF
    by_cases h0 : l.length = 0
    · rw [if_pos h0]
      obtain rfl : l = [] := List.eq_nil_of_length_eq_zero h0
      exact ⟨w, .nil w, fun b _ => by simp⟩
    · rw [if_neg h0]
      obtain ⟨n, hn⟩ : ∃ n, runN l l.length 1 = n := ⟨_, rfl⟩
      have hge := runN_ge l l.length 1
      have hst := runN_step l l.length 1 (fun i h1 h2 => by omega)
      rw [hn] at hge hst ⊢
      have hnl := hge.2 (by omega)
      have hrun : ∀ i, i < n → l.getD i 0 = l.getD 0 0 + i := by
        intro i
        induction i with
        | zero => intro _; rfl
        | succ i ih =>
          intro hi
          have h1 := ih (by omega)
          have h2 := hst (i + 1) (by omega) hi
          rw [Nat.add_sub_cancel] at h2
          have h3 := asc_lt hp (show i < i + 1 by omega) (by omega)
          have h4 := hx _ (getD_mem (show i < l.length by omega))
          omega
      have hlast := hrun (n - 1) (by omega)
      have hb := hx _ (getD_mem (show n - 1 < l.length by omega))
      have e : l.getD (n - 1) 0 = l.getD 0 0 + n - 1 := by omega
      rw [e, List.flatMap_cons]
      obtain ⟨w1, g1, f1⟩ := run_els (a := l.getD 0 0) (n := n) (by omega) (by omega) w
      obtain ⟨w2, g2, f2⟩ := runs_els f (l.drop n) (List.Pairwise.sublist (List.drop_sublist n l) hp) (fun x h => hx x (List.mem_of_mem_drop h)) (by rw [List.length_drop]; omega) w1
      refine ⟨w2, gels_app g1 g2, fun b hb => ?_⟩
      rw [f2 b hb, f1 b hb, Bool.or_assoc, ← Bool.decide_or]
      congr 1
      rw [decide_eq_decide]
      constructor
      · rintro (⟨h1, h2⟩ | h)
        · have := getD_mem (show b - l.getD 0 0 < l.length by omega)
          rw [hrun (b - l.getD 0 0) (by omega)] at this
          rwa [show l.getD 0 0 + (b - l.getD 0 0) = b by omega] at this
        · exact List.mem_of_mem_drop h
      · intro h
        obtain ⟨i, hi, rfl⟩ := List.mem_iff_getElem.1 h
        by_cases hin : i < n
        · have := hrun i hin
          rw [List.getD_eq_getElem?_getD, List.getElem?_eq_getElem hi] at this
          have this : l[i] = l.getD 0 0 + i := this
          left
          omega
        · right
          have : (l.drop n)[i - n]? = some l[i] := by rw [List.getElem?_drop, show n + (i - n) = i by omega, List.getElem?_eq_getElem hi]
          exact List.mem_of_getElem? this
theorem upto_mem (s : WSet) (b : Nat) : b ∈ upto s 0 256 ↔ b < 256 ∧ s.has b = true := by
  unfold upto
  simp
theorem upto_asc (s : WSet) : (upto s 0 256).Pairwise (· < ·) := List.Pairwise.filter _ (List.pairwise_lt_range (n := 256))
theorem gor_empty (v : WSet) : WSet.empty.or v = v := ext_has fun b _ => by rw [has_or, has_empty, Bool.false_or]
/-- A set that is not empty is written as itself. -/
theorem gset_setT {w : WSet} (hw : w ≠ .empty) : GSet (setT w) w := by
  unfold setT
  by_cases h1 : w = WSet.empty.not
  · rw [if_pos h1]
    exact .inr (.inr (.inl ⟨rfl, h1⟩))
  rw [if_neg h1]
  by_cases h2 : (upto w 0 256).length = 1
  · rw [if_pos h2]
    obtain ⟨n, hn⟩ : ∃ n, (upto w 0 256) = [n] := List.length_eq_one_iff.1 h2
    have hm := (upto_mem w n).1 (by rw [hn]; simp)
    have hg : (upto w 0 256).getD 0 0 = n := by rw [hn]; rfl
    have e : w = ofW (UInt8.ofNat n) := ext_has fun b hb => by
      rw [has_ofW hm.1 hb]
      have := upto_mem w b
      rw [hn, List.mem_singleton] at this
      by_cases hbn : b = n
      · rw [decide_eq_true hbn, (this.1 hbn).2]
      · rw [decide_eq_false hbn]
        cases hh : w.has b with
        | false => rfl
        | true => exact absurd (this.2 ⟨hb, hh⟩) hbn
    rw [hg]
    obtain ⟨b, hb⟩ : ∃ b, UInt8.ofNat n = b := ⟨_, rfl⟩
    rw [hb] at e ⊢
    by_cases hq : b ∈ ([94, 36, 46, 42, 43, 63, 40, 41, 91, 93, 124, 92] : List UInt8)
    · rw [quo_yes hq]
      refine .inr (.inr (.inr (.inr (.inl ⟨b, rfl, ?_, ?_, e⟩)))) <;> rintro rfl <;> revert hq <;> decide
    · rw [quo_no hq]
      refine .inr (.inr (.inr (.inr (.inr ⟨b, rfl, ?_, ?_, ?_, ?_, ?_, e⟩))))
      · cases hc : behindL.contains b with
        | false => rfl
        | true =>
          exfalso
          apply hq
          simp [behindL] at hc
          rcases hc with rfl | rfl | rfl | rfl | rfl | rfl | rfl | rfl <;> decide
      all_goals
        rintro rfl
        revert hq
        decide
  · rw [if_neg h2]
    have hne : upto w 0 256 ≠ [] := by
      intro h
      apply hw
      refine ext_has fun b hb => ?_
      rw [has_empty]
      cases hh : w.has b with
      | false => rfl
      | true =>
        have := (upto_mem w b).2 ⟨hb, hh⟩
        rw [h] at this
        cases this
    obtain ⟨w', g, f⟩ := runs_els 257 (upto w 0 256) (upto_asc w) (fun x h => ((upto_mem w x).1 h).1) (by have := upto_length w 0 256; omega) .empty
    have e : w' = w := ext_has fun b hb => by
      rw [f b hb, has_empty, Bool.false_or]
      cases hh : w.has b with
      | false => exact decide_eq_false (fun h => by have := ((upto_mem w b).1 h).2; rw [hh] at this; cases this)
      | true => exact decide_eq_true ((upto_mem w b).2 ⟨hb, hh⟩)
    subst e
    have hh : ((runsF 257 (upto w' 0 256)).flatMap runT).head? ≠ some 94 := by
      unfold runsF
      split
      · simp
      · rw [List.flatMap_cons]
        unfold runT
        have := quo_head (UInt8.ofNat ((upto w' 0 256).getD 0 0))
        have hl := (quo_len [94, 93, 45, 92] (UInt8.ofNat ((upto w' 0 256).getD 0 0))).1
        dsimp only
        revert this hl
        generalize quo [94, 93, 45, 92] (UInt8.ofNat ((upto w' 0 256).getD 0 0)) = q
        cases q with
        | nil => intro _ hl; simp at hl
        | cons c q => intro h _; simpa using h
    unfold clsT
    have hR : (runsR w').flatMap runT = (runsF 257 (upto w' 0 256)).flatMap runT := rfl
    rw [hR]
    generalize (runsF 257 (upto w' 0 256)).flatMap runT = X at g hh
    cases g with
    | nil => exact absurd rfl hw
    | cons x y _ v _ g1 g2 =>
      rw [gor_empty] at g2
      refine .inr (.inr (.inr (.inl ⟨false, x, y, v, w', by simp, g1, fun _ => ?_, g2, rfl, hw⟩)))
      obtain ⟨c, x', rfl, _⟩ := el_head g1
      simpa using hh
mutual
theorem tx_P : ∀ p : Pc, wfP p → GP p (txP p)
  | .atom _ _, h => ⟨_, gset_setT h.1, h.2, rfl⟩
  | .grp c _, h => ⟨_, tx_Q c h.1, h.2, rfl⟩
theorem tx_S : ∀ s : Ps, wfS s → GS s (txS s)
  | .nil, _ => rfl
  | .cons p r, h => ⟨_, _, tx_P p h.1, tx_S r h.2, rfl⟩
theorem tx_Q : ∀ c : Cs, wfQ c → GQ c (txQ c)
  | .one s, h => tx_S s h
  | .cons s r, h => ⟨_, _, tx_S s h.1, tx_Q r h.2, rfl⟩
end
/-- What is read is the tree of its text. -/
theorem par_back {t : List UInt8} (h : (parP t).2.1 = 0) (hl : (fullT (parP t).1.L (parP t).1.b (parP t).1.en).length ≤ 64) : parP (fullT (parP t).1.L (parP t).1.b (parP t).1.en) = parP t := by
  obtain ⟨_, bb, en, c, x, _, g1, g2, e⟩ := par_s h
  rw [e] at hl ⊢
  dsimp only at hl ⊢
  have hf := full_flT c bb en
  rw [hf] at hl ⊢
  exact par_c bb en (tx_Q c (wf_Q c x g1).1) g2 _ rfl hl
end Go.Proofs.YtdnbnigebejgjaaDoor
