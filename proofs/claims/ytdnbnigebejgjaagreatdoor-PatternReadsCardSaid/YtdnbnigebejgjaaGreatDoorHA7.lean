/-
  The text of a pattern is a pattern of the grammar: a set that is not empty is written as itself.
  Groups of a tree: the order of groups, and the tree of a pattern in parentheses.
-/
import Derived.Test.YtdnbnigebejgjaaGreatDoorHA1
import Derived.Test.YtdnbnigebejgjaaGreatDoorHA4
import Derived.Test.YtdnbnigebejgjaaGreatDoorHC8
namespace Go.Proofs.YtdnbnigebejgjaaGreatDoor
open Go.RowKit
theorem gib_mem (c : UInt8) : ∀ l : List UInt8, (0 ≤ Lib.indexByte l c) ↔ c ∈ l
  | [] => by simp [Lib.indexByte]
  | b :: l => by
    have ih := gib_mem c l
    have hg := Lib.indexByte_ge l c
    unfold Lib.indexByte
    by_cases h : b = c
    · subst h; simp
    · have h1 : (b == c) = false := by simpa using h
      have h2 : c ≠ b := Ne.symm h
      rw [h1]
      simp only [Bool.false_eq_true, if_false, List.mem_cons, h2, false_or, ← ih]
      by_cases e : Lib.indexByte l c = -1
      · simp [e]
      · have : (Lib.indexByte l c == -1) = false := by simpa using e
        rw [this]
        simp only [Bool.false_eq_true, if_false]
        omega
theorem quo_yes {m : List UInt8} {b : UInt8} (h : b ∈ m) : quo m b = [92, b] := by
  unfold quo
  rw [if_pos ((gib_mem b m).2 h)]
theorem quo_no {m : List UInt8} {b : UInt8} (h : b ∉ m) : quo m b = [b] := by
  unfold quo
  rw [if_neg (fun k => h ((gib_mem b m).1 k))]
theorem quo_cb (b : UInt8) : GCb (quo [94, 93, 45, 92] b) b := by
  by_cases h : b ∈ ([94, 93, 45, 92] : List UInt8)
  · rw [quo_yes h]
    refine .inr ⟨rfl, ?_, ?_⟩ <;> rintro rfl <;> revert h <;> decide
  · rw [quo_no h]
    simp at h
    exact .inl ⟨rfl, h.2.1, h.2.2.1, h.2.2.2⟩
theorem quo_head (b : UInt8) : (quo [94, 93, 45, 92] b).head? ≠ some 94 := by
  by_cases h : b ∈ ([94, 93, 45, 92] : List UInt8)
  · rw [quo_yes h]; simp
  · rw [quo_no h]
    simp at h
    simpa using h.1
theorem gels_app {x : List UInt8} {w w1 : WSet} (h : GEls x w w1) : ∀ {y : List UInt8} {w2 : WSet}, GEls y w1 w2 → GEls (x ++ y) w w2 := by
  induction h with
  | nil w => exact fun h => h
  | cons x y w v w' g1 g2 ih =>
    intro z w2 h
    rw [List.append_assoc]
    exact .cons _ _ _ _ _ g1 (ih h)
theorem gels_one {x : List UInt8} {v : WSet} (h : GEl x v) (w : WSet) : GEls x w (w.or v) := by
  have := GEls.cons x [] w v _ h (.nil _)
  rwa [List.append_nil] at this
theorem toNat_of {n : Nat} (h : n < 256) : (UInt8.ofNat n).toNat = n := by simp; omega
theorem has_ofW {n b : Nat} (h : n < 256) (hb : b < 256) : (ofW (UInt8.ofNat n)).has b = decide (b = n) := by
  unfold ofW
  rw [toNat_of h, has_add _ _ _ h hb, has_empty, Bool.false_or]
theorem run_els {a n : Nat} (h1 : 1 ≤ n) (h2 : a + n ≤ 256) (w : WSet) : ∃ w', GEls (runT (a, a + n - 1)) w w' ∧ ∀ b, b < 256 → w'.has b = (w.has b || decide (a ≤ b ∧ b < a + n)) := by
  unfold runT
  dsimp only
  by_cases e1 : n = 1
  · subst e1
    rw [if_neg (by omega), if_neg (by omega), List.append_nil, List.append_nil]
    refine ⟨_, gels_one (.inr (.inr (.inl ⟨_, quo_cb _, rfl⟩))) w, fun b hb => ?_⟩
    rw [has_or, has_ofW (by omega) hb]
    congr 1
    rw [decide_eq_decide]
    omega
  · by_cases e2 : n = 2
    · subst e2
      rw [if_neg (by omega), if_pos (by omega), List.nil_append]
      refine ⟨_, gels_app (gels_one (.inr (.inr (.inl ⟨_, quo_cb _, rfl⟩))) w) (gels_one (.inr (.inr (.inl ⟨_, quo_cb _, rfl⟩))) _), fun b hb => ?_⟩
      rw [has_or, has_or, has_ofW (by omega) hb, has_ofW (by omega) hb, Bool.or_assoc, ← Bool.decide_or]
      congr 1
      rw [decide_eq_decide]
      omega
    · rw [if_pos (by omega), if_pos (by omega)]
      refine ⟨_, gels_one (.inr (.inr (.inr ⟨_, _, _, _, rfl, quo_cb _, quo_cb _, ?_, rfl⟩))) w, fun b hb => ?_⟩
      · rw [toNat_of (by omega), toNat_of (by omega)]; omega
      · unfold spanW
        rw [toNat_of (by omega), toNat_of (by omega), if_pos (by omega), has_or, has_or, has_empty, Bool.false_or, has_spanTo _ _ _ (by omega) hb]
        congr 1
        rw [decide_eq_decide]
        omega
theorem runN_step (l : List Nat) : ∀ (f n : Nat), (∀ i, 1 ≤ i → i < n → l.getD i 0 = (l.getD (i - 1) 0 + 1) % 256) → ∀ i, 1 ≤ i → i < runN l f n → l.getD i 0 = (l.getD (i - 1) 0 + 1) % 256
  | 0, n, h => h
  | f + 1, n, h => by
    unfold runN
    split
    · rename_i hh
      refine runN_step l f (n + 1) (fun i hi hn => ?_)
      by_cases e : i = n
      · rw [e]; exact hh.2
      · exact h i hi (by omega)
    · exact h
theorem asc_lt {l : List Nat} (h : l.Pairwise (· < ·)) {i j : Nat} (hij : i < j) (hj : j < l.length) : l.getD i 0 < l.getD j 0 := by
  rw [List.getD_eq_getElem?_getD, List.getD_eq_getElem?_getD, List.getElem?_eq_getElem hj, List.getElem?_eq_getElem (by omega)]
  exact List.pairwise_iff_getElem.1 h i j _ _ hij
theorem getD_mem {l : List Nat} {i : Nat} (h : i < l.length) : l.getD i 0 ∈ l := by
  rw [List.getD_eq_getElem?_getD, List.getElem?_eq_getElem h]
  exact List.getElem_mem h
theorem runs_els : ∀ (f : Nat) (l : List Nat), l.Pairwise (· < ·) → (∀ x ∈ l, x < 256) → l.length ≤ f → ∀ w, ∃ w', GEls ((runsF f l).flatMap runT) w w' ∧ ∀ b, b < 256 → w'.has b = (w.has b || decide (b ∈ l))
  | 0, l, _, _, hl, w => by
    obtain rfl : l = [] := List.eq_nil_of_length_eq_zero (by omega)
    exact ⟨w, .nil w, fun b _ => by simp⟩
  | f + 1, l, hp, hx, hl, w => by
    unfold runsF
    by_cases h0 : l.length = 0
    · rw [if_pos h0]
      obtain rfl : l = [] := List.eq_nil_of_length_eq_zero h0
      exact ⟨w, .nil w, fun b _ => by simp⟩
    · rw [if_neg h0]
      obtain ⟨n, hn⟩ : ∃ n, runN l l.length 1 = n := ⟨_, rfl⟩
      have hge := runN_ge l l.length 1
      have hst := runN_step l l.length 1 (fun i h1 h2 => by omega)
      rw [hn] at hge hst ⊢
      have hnl := hge.2 (by omega)
      have hrun : ∀ i, i < n → l.getD i 0 = l.getD 0 0 + i := by
        intro i
        induction i with
        | zero => intro _; rfl
        | succ i ih =>
          intro hi
          have h1 := ih (by omega)
          have h2 := hst (i + 1) (by omega) hi
          rw [Nat.add_sub_cancel] at h2
          have h3 := asc_lt hp (show i < i + 1 by omega) (by omega)
          have h4 := hx _ (getD_mem (show i < l.length by omega))
          omega
      have hlast := hrun (n - 1) (by omega)
      have hb := hx _ (getD_mem (show n - 1 < l.length by omega))
      have e : l.getD (n - 1) 0 = l.getD 0 0 + n - 1 := by omega
      rw [e, List.flatMap_cons]
      obtain ⟨w1, g1, f1⟩ := run_els (a := l.getD 0 0) (n := n) (by omega) (by omega) w
      obtain ⟨w2, g2, f2⟩ := runs_els f (l.drop n) (List.Pairwise.sublist (List.drop_sublist n l) hp) (fun x h => hx x (List.mem_of_mem_drop h)) (by rw [List.length_drop]; omega) w1
      refine ⟨w2, gels_app g1 g2, fun b hb => ?_⟩
      rw [f2 b hb, f1 b hb, Bool.or_assoc, ← Bool.decide_or]
      congr 1
      rw [decide_eq_decide]
      constructor
      · rintro (⟨h1, h2⟩ | h)
        · have := getD_mem (show b - l.getD 0 0 < l.length by omega)
          rw [hrun (b - l.getD 0 0) (by omega)] at this
          rwa [show l.getD 0 0 + (b - l.getD 0 0) = b by omega] at this
        · exact List.mem_of_mem_drop h
      · intro h
        obtain ⟨i, hi, rfl⟩ := List.mem_iff_getElem.1 h
        by_cases hin : i < n
        · have := hrun i hin
          rw [List.getD_eq_getElem?_getD, List.getElem?_eq_getElem hi] at this
          have this : l[i] = l.getD 0 0 + i := this
          left
          omega
        · right
          have : (l.drop n)[i - n]? = some l[i] := by rw [List.getElem?_drop, show n + (i - n) = i by omega, List.getElem?_eq_getElem hi]
          exact List.mem_of_getElem? this
theorem upto_mem (s : WSet) (b : Nat) : b ∈ upto s 0 256 ↔ b < 256 ∧ s.has b = true := by
  unfold upto
  simp
theorem upto_asc (s : WSet) : (upto s 0 256).Pairwise (· < ·) := List.Pairwise.filter _ (List.pairwise_lt_range (n := 256))
theorem gor_empty (v : WSet) : WSet.empty.or v = v := ext_has fun b _ => by rw [has_or, has_empty, Bool.false_or]
/-- A set that is not empty is written as itself. -/
theorem gset_setT {w : WSet} (hw : w ≠ .empty) : GSet (setT w) w := by
  unfold setT
  by_cases h1 : w = WSet.empty.not
  · rw [if_pos h1]
    exact .inr (.inr (.inl ⟨rfl, h1⟩))
  rw [if_neg h1]
  by_cases h2 : (upto w 0 256).length = 1
  · rw [if_pos h2]
    obtain ⟨n, hn⟩ : ∃ n, (upto w 0 256) = [n] := List.length_eq_one_iff.1 h2
    have hm := (upto_mem w n).1 (by rw [hn]; simp)
    have hg : (upto w 0 256).getD 0 0 = n := by rw [hn]; rfl
    have e : w = ofW (UInt8.ofNat n) := ext_has fun b hb => by
      rw [has_ofW hm.1 hb]
      have := upto_mem w b
      rw [hn, List.mem_singleton] at this
      by_cases hbn : b = n
      · rw [decide_eq_true hbn, (this.1 hbn).2]
      · rw [decide_eq_false hbn]
        cases hh : w.has b with
        | false => rfl
        | true => exact absurd (this.2 ⟨hb, hh⟩) hbn
    rw [hg]
    obtain ⟨b, hb⟩ : ∃ b, UInt8.ofNat n = b := ⟨_, rfl⟩
    rw [hb] at e ⊢
    by_cases hq : b ∈ ([94, 36, 46, 42, 43, 63, 40, 41, 91, 93, 124, 92] : List UInt8)
    · rw [quo_yes hq]
      refine .inr (.inr (.inr (.inr (.inl ⟨b, rfl, ?_, ?_, e⟩)))) <;> rintro rfl <;> revert hq <;> decide
    · rw [quo_no hq]
      refine .inr (.inr (.inr (.inr (.inr ⟨b, rfl, ?_, ?_, ?_, ?_, ?_, e⟩))))
      · cases hc : behindL.contains b with
        | false => rfl
        | true =>
          exfalso
          apply hq
          simp [behindL] at hc
          rcases hc with rfl | rfl | rfl | rfl | rfl | rfl | rfl | rfl <;> decide
      all_goals
        rintro rfl
        revert hq
        decide
  · rw [if_neg h2]
    have hne : upto w 0 256 ≠ [] := by
      intro h
      apply hw
      refine ext_has fun b hb => ?_
      rw [has_empty]
      cases hh : w.has b with
      | false => rfl
      | true =>
        have := (upto_mem w b).2 ⟨hb, hh⟩
        rw [h] at this
        cases this
    obtain ⟨w', g, f⟩ := runs_els 257 (upto w 0 256) (upto_asc w) (fun x h => ((upto_mem w x).1 h).1) (by have := upto_length w 0 256; omega) .empty
    have e : w' = w := ext_has fun b hb => by
      rw [f b hb, has_empty, Bool.false_or]
      cases hh : w.has b with
      | false => exact decide_eq_false (fun h => by have := ((upto_mem w b).1 h).2; rw [hh] at this; cases this)
      | true => exact decide_eq_true ((upto_mem w b).2 ⟨hb, hh⟩)
    subst e
    have hh : ((runsF 257 (upto w' 0 256)).flatMap runT).head? ≠ some 94 := by
      unfold runsF
      split
      · simp
      · rw [List.flatMap_cons]
        unfold runT
        have := quo_head (UInt8.ofNat ((upto w' 0 256).getD 0 0))
        have hl := (quo_len [94, 93, 45, 92] (UInt8.ofNat ((upto w' 0 256).getD 0 0))).1
        dsimp only
        revert this hl
        generalize quo [94, 93, 45, 92] (UInt8.ofNat ((upto w' 0 256).getD 0 0)) = q
        cases q with
        | nil => intro _ hl; simp at hl
        | cons c q => intro h _; simpa using h
    unfold clsT
    have hR : (runsR w').flatMap runT = (runsF 257 (upto w' 0 256)).flatMap runT := rfl
    rw [hR]
    generalize (runsF 257 (upto w' 0 256)).flatMap runT = X at g hh
    cases g with
    | nil => exact absurd rfl hw
    | cons x y _ v _ g1 g2 =>
      rw [gor_empty] at g2
      refine .inr (.inr (.inr (.inl ⟨false, x, y, v, w', by simp, g1, fun _ => ?_, g2, rfl, hw⟩)))
      obtain ⟨c, x', rfl, _⟩ := el_head g1
      simpa using hh
mutual
theorem tx_P : ∀ p : Pc, wfP p → GP p (txP p)
  | .atom _ _, h => ⟨_, gset_setT h.1, h.2, rfl⟩
  | .grp c _, h => ⟨_, tx_Q c h.1, h.2, rfl⟩
theorem tx_S : ∀ s : Ps, wfS s → GS s (txS s)
  | .nil, _ => rfl
  | .cons p r, h => ⟨_, _, tx_P p h.1, tx_S r h.2, rfl⟩
theorem tx_Q : ∀ c : Cs, wfQ c → GQ c (txQ c)
  | .one s, h => tx_S s h
  | .cons s r, h => ⟨_, _, tx_S s h.1, tx_Q r h.2, rfl⟩
end
/-- What is read is the tree of its text. -/
theorem par_back {t : List UInt8} (h : (parP t).2.1 = 0) (hl : (fullT (parP t).1.L (parP t).1.b (parP t).1.en).length ≤ 64) : parP (fullT (parP t).1.L (parP t).1.b (parP t).1.en) = parP t := by
  obtain ⟨_, bb, en, c, x, _, g1, g2, e⟩ := par_s h
  rw [e] at hl ⊢
  dsimp only at hl ⊢
  have hf := full_flT c bb en
  rw [hf] at hl ⊢
  exact par_c bb en (tx_Q c (wf_Q c x g1).1) g2 _ rfl hl
end Go.Proofs.YtdnbnigebejgjaaGreatDoor
namespace Go.Proofs.YtdnbnigebejgjaaGreatDoor
open Go.RowKit
theorem snd_group {n : ND} (h : sndB n = true) : n.kind = 4 ∨ n.group = 0 := by
  rcases snd_kind h with k | k | k | k
  · exact .inr (snd1 k h).2.1
  · right
    unfold sndB at h
    rw [k] at h
    simp at h
    exact h.2
  · exact .inr (snd_root k h)
  · exact .inl k
theorem tree_snd {L : List ND} {g : Int} (h : chkR L g = 0) (i : Nat) (hi : i < L.length) : sndB (L.getD i (bare 0 .empty 0)) = true := by
  obtain ⟨_, ht, _⟩ := chk_zero h
  obtain ⟨_, _, f3⟩ := treeB_facts ht
  obtain ⟨k, hk, _⟩ := beh_all f3 i (Nat.zero_le _) hi
  exact beh_snd hk
theorem num_lt : ∀ (L : List ND) (c : Int), numOK L c = true → ∀ i, i < L.length → (L.getD i (bare 0 .empty 0)).kind = 4 → c < (L.getD i (bare 0 .empty 0)).group ∧ ∀ j, i < j → j < L.length → (L.getD j (bare 0 .empty 0)).kind = 4 → (L.getD i (bare 0 .empty 0)).group < (L.getD j (bare 0 .empty 0)).group
  | [], _, _, i, hi, _ => by simp at hi
  | n :: L, c, h, 0, _, hk => by
    have hk : n.kind = 4 := hk
    unfold numOK at h
    rw [if_pos hk] at h
    simp only [Bool.and_eq_true, decide_eq_true_eq] at h
    have e : ((n :: L).getD 0 (bare 0 .empty 0)) = n := rfl
    rw [e]
    refine ⟨by omega, fun j hj hl hkj => ?_⟩
    obtain ⟨j, rfl⟩ : ∃ k, j = k + 1 := ⟨j - 1, by omega⟩
    have := (num_lt L (c + 1) h.2 j (by simpa using hl) hkj).1
    have e2 : ((n :: L).getD (j + 1) (bare 0 .empty 0)) = L.getD j (bare 0 .empty 0) := rfl
    rw [e2]
    omega
  | n :: L, c, h, i + 1, hi, hk => by
    have e2 : ∀ j, ((n :: L).getD (j + 1) (bare 0 .empty 0)) = L.getD j (bare 0 .empty 0) := fun _ => rfl
    rw [e2] at hk ⊢
    unfold numOK at h
    split at h
    · simp only [Bool.and_eq_true, decide_eq_true_eq] at h
      have k := num_lt L (c + 1) h.2 i (by simpa using hi) hk
      refine ⟨by omega, fun j hj hl hkj => ?_⟩
      obtain ⟨j, rfl⟩ : ∃ k, j = k + 1 := ⟨j - 1, by omega⟩
      rw [e2] at hkj ⊢
      exact k.2 j (by omega) (by simpa using hl) hkj
    · have k := num_lt L c h i (by simpa using hi) hk
      refine ⟨k.1, fun j hj hl hkj => ?_⟩
      obtain ⟨j, rfl⟩ : ∃ k, j = k + 1 := ⟨j - 1, by omega⟩
      rw [e2] at hkj ⊢
      exact k.2 j (by omega) (by simpa using hl) hkj
theorem plc_is {L : List ND} {o : Int} {p : Nat} (h : plc L o = some p) : p < L.length ∧ (L.getD p (bare 0 .empty 0)).group = o := by
  unfold plc at h
  rw [List.findIdx?_eq_some_iff_getElem] at h
  obtain ⟨hp, h1, _⟩ := h
  refine ⟨hp, ?_⟩
  rw [List.getD_eq_getElem?_getD, List.getElem?_eq_getElem hp]
  exact of_decide_eq_true h1
/-- Where a group stands, and what is behind it. -/
structure GrpAt (L : List ND) (o : Int) (p k : Nat) : Prop where
  pl : plc L o = some p
  be : beh L L.length p = some k
  lt : p < k
  kd : 1 ≤ o → (L.getD p (bare 0 .empty 0)).kind = 4
theorem grp_at {L : List ND} {g o : Int} (h : chkR L g = 0) (h0 : 0 ≤ o) (h1 : o ≤ g) : ∃ p k, GrpAt L o p k := by
  obtain ⟨p, hp⟩ := plc_all h h0 h1
  obtain ⟨hl, hg⟩ := plc_is hp
  obtain ⟨_, ht, _⟩ := chk_zero h
  obtain ⟨_, _, f3⟩ := treeB_facts ht
  obtain ⟨k, hk, h2, _⟩ := beh_all f3 p (Nat.zero_le _) hl
  refine ⟨p, k, hp, hk, h2, fun ho => ?_⟩
  rcases snd_group (tree_snd h p hl) with k | k
  · exact k
  · omega
theorem hd_iff {L : List ND} {o i : Int} {p k q l : Nat} (ho : GrpAt L o p k) (hi : GrpAt L i q l) : hdB L o i = true ↔ p ≤ q ∧ q < k := by
  unfold hdB
  rw [ho.pl, hi.pl]
  dsimp only
  rw [ho.be]
  show decide ((p : Int) ≤ (q : Int) ∧ (q : Int) < (k : Int)) = true ↔ _
  rw [decide_eq_true_eq]
  omega
theorem hd_refl {L : List ND} {g a : Int} (h : chkR L g = 0) (h0 : 1 ≤ a) (h1 : a ≤ g) : hdB L a a = true := by
  obtain ⟨p, k, ha⟩ := grp_at h (by omega) h1
  exact (hd_iff ha ha).2 ⟨Nat.le_refl _, ha.lt⟩
theorem hd_le {L : List ND} {g a b : Int} (h : chkR L g = 0) (a0 : 1 ≤ a) (a1 : a ≤ g) (b0 : 1 ≤ b) (b1 : b ≤ g) (hab : hdB L a b = true) : a ≤ b := by
  obtain ⟨p, k, ha⟩ := grp_at h (by omega) a1
  obtain ⟨q, l, hb⟩ := grp_at h (by omega) b1
  obtain ⟨h1, _⟩ := (hd_iff ha hb).1 hab
  obtain ⟨hp, ep⟩ := plc_is ha.pl
  obtain ⟨hq, eq⟩ := plc_is hb.pl
  by_cases e : p = q
  · subst e; omega
  · obtain ⟨_, _, hn⟩ := chk_zero h
    unfold nmB at hn
    simp only [Bool.and_eq_true] at hn
    have := (num_lt L 0 hn.1 p hp (ha.kd a0)).2 q (by omega) hq (hb.kd b0)
    omega
theorem hd_anti {L : List ND} {g a b : Int} (h : chkR L g = 0) (a0 : 1 ≤ a) (a1 : a ≤ g) (b0 : 1 ≤ b) (b1 : b ≤ g) : (hdB L a b && hdB L b a) = decide (a = b) := by
  by_cases e : a = b
  · subst e
    rw [hd_refl h a0 a1, decide_eq_true rfl]; rfl
  · rw [decide_eq_false e]
    cases h1 : hdB L a b with
    | false => rfl
    | true =>
      cases h2 : hdB L b a with
      | false => rfl
      | true =>
        have := hd_le h a0 a1 b0 b1 h1
        have := hd_le h b0 b1 a0 a1 h2
        exact absurd (by omega) e
theorem hd_trans {L : List ND} {g a b c : Int} (h : chkR L g = 0) (a0 : 1 ≤ a) (a1 : a ≤ g) (b0 : 1 ≤ b) (b1 : b ≤ g) (c0 : 1 ≤ c) (c1 : c ≤ g) (hab : hdB L a b = true) (hbc : hdB L b c = true) : hdB L a c = true := by
  obtain ⟨p, k, ha⟩ := grp_at h (by omega) a1
  obtain ⟨q, l, hb⟩ := grp_at h (by omega) b1
  obtain ⟨r, m, hc⟩ := grp_at h (by omega) c1
  obtain ⟨h1, h2⟩ := (hd_iff ha hb).1 hab
  obtain ⟨h3, h4⟩ := (hd_iff hb hc).1 hbc
  obtain ⟨l', hl, _, h5⟩ := beh_all ha.be q h1 h2
  rw [hb.be] at hl
  injection hl with hl
  exact (hd_iff ha hc).2 ⟨by omega, by omega⟩
theorem dis_two {L : List ND} {g a b : Int} (a0 : 1 ≤ a) (a1 : a ≤ g) (b0 : 1 ≤ b) (b1 : b ≤ g) : disR L g [a, b] = (!(hdB L a b || hdB L b a), 0) := by
  unfold disR
  have : [a, b].all (fun x => decide (0 ≤ x ∧ x ≤ g)) = true := by simp; omega
  rw [if_pos this]
  simp only [dsjO, dsjI, List.all_nil, List.nil_append, List.all_cons, Bool.and_true, Bool.true_and]
  rw [Bool.or_comm]
/-- A tree below three nodes more. -/
def sx (k : Int) : Int := if k = -1 then -1 else k + 3
def sh (n : ND) : ND := { n with group := if n.kind = 4 then n.group + 1 else n.group, first := sx n.first, next := sx n.next }
theorem sx_hd (b : Nat) (r : Ps) : sx (hdS b r) = hdS (b + 3) r := by
  cases r with
  | nil => rfl
  | cons p r =>
    show sx (b : Int) = ((b + 3 : Nat) : Int)
    unfold sx
    rw [if_neg (by omega)]
    omega
theorem sx_nat (b : Nat) : sx (b : Int) = ((b + 3 : Nat) : Int) := by
  unfold sx
  rw [if_neg (by omega)]
  omega
mutual
theorem sh_P : ∀ (p : Pc) (b g : Nat) (nx : Int), flP (b + 3) (g + 1) (sx nx) p = (flP b g nx p).map sh
  | .atom w tm, b, g, nx => rfl
  | .grp c tm, b, g, nx => by
    unfold flP
    rw [List.map_cons, List.map_cons, ← sh_Q c (b + 2) (g + 1), show b + 3 + 2 = b + 2 + 3 by omega]
    have e1 := sx_nat (b + 1)
    have e2 := sx_nat (b + 2)
    unfold sh
    dsimp only
    rw [if_pos rfl, if_neg (by decide), e1, e2]
    have e3 : ((g + 1 : Nat) : Int) + 1 = ((g + 1 + 1 : Nat) : Int) := by omega
    rw [e3]
    have e4 : b + 1 + 3 = b + 3 + 1 := by omega
    rw [e4]
    have e5 : b + 2 + 3 = b + 3 + 2 := by omega
    rw [e5]
    rfl
theorem sh_S : ∀ (s : Ps) (b g : Nat), flS (b + 3) (g + 1) s = (flS b g s).map sh
  | .nil, _, _ => rfl
  | .cons p r, b, g => by
    unfold flS
    rw [List.map_append, ← sh_P p b g, ← sh_S r, sx_hd, show b + 3 + szP p = b + szP p + 3 by omega, show g + 1 + gcP p = g + gcP p + 1 by omega]
theorem sh_Q : ∀ (c : Cs) (b g : Nat), flQ (b + 3) (g + 1) c = (flQ b g c).map sh
  | .one s, b, g => by
    unfold flQ
    rw [List.map_cons, ← sh_S s (b + 1) g, show b + 3 + 1 = b + 1 + 3 by omega]
    have e := sx_hd (b + 1) s
    unfold sh
    dsimp only
    rw [if_neg (by decide), e]
    rfl
  | .cons s r, b, g => by
    unfold flQ
    rw [List.map_cons, List.map_append, ← sh_S s (b + 1) g, ← sh_Q r, show b + 3 + 1 = b + 1 + 3 by omega, show b + 1 + 3 + szS s = b + 1 + szS s + 3 by omega, show g + 1 + gcS s = g + gcS s + 1 by omega]
    have e := sx_hd (b + 1) s
    have e2 := sx_nat (b + 1 + szS s)
    unfold sh
    dsimp only
    rw [if_neg (by decide), e, e2]
end
def parC (c : Cs) : Cs := .one (.cons (.grp c 0) .nil)
def upN : List ND := [⟨3, 0, .empty, 0, 1, -1⟩, ⟨2, 0, .empty, 0, 2, -1⟩, ⟨4, 0, .empty, 1, 3, -1⟩]
theorem flT_par (c : Cs) : flT (parC c) = upN ++ (flT c).map sh := by
  have k := sh_Q c 1 0
  unfold flT parC
  simp only [flQ, flS, flP, hdS, List.append_nil, List.map_cons]
  rw [← k]
  rfl
theorem find_sh (a : Int) (ha : 1 ≤ a) : ∀ L : List ND, (∀ n ∈ L, n.kind = 4 ∨ n.group = 0) → (L.map sh).findIdx? (fun n => decide (n.group = a + 1)) = L.findIdx? (fun n => decide (n.group = a))
  | [], _ => rfl
  | n :: L, h => by
    have ih := find_sh a ha L (fun m hm => h m (List.mem_cons_of_mem _ hm))
    rw [List.map_cons, List.findIdx?_cons, List.findIdx?_cons, ih]
    have e : decide ((sh n).group = a + 1) = decide (n.group = a) := by
      rw [decide_eq_decide]
      unfold sh
      dsimp only
      rcases h n (List.mem_cons_self ..) with k | k
      · rw [if_pos k]; omega
      · by_cases k4 : n.kind = 4
        · rw [if_pos k4]; omega
        · rw [if_neg k4]; omega
    rw [e]
theorem plc_up {L : List ND} {a : Int} (ha : 1 ≤ a) (h : ∀ n ∈ L, n.kind = 4 ∨ n.group = 0) {p : Nat} (hp : plc L a = some p) : plc (upN ++ L.map sh) (a + 1) = some (p + 3) := by
  unfold plc at hp ⊢
  have e := find_sh a ha L h
  rw [hp] at e
  unfold upN
  simp only [List.cons_append, List.nil_append, List.findIdx?_cons]
  rw [e, decide_eq_false (by omega), decide_eq_false (by omega)]
  rfl
theorem kl_first {L : List ND} {f : Nat} {kd : Int} {nx : Nat} {k : Int} {e : Nat} (h : kl L f kd nx k = some e) : k = -1 ∨ k = (nx : Int) := by
  by_cases hk : k = -1
  · exact .inl hk
  · obtain ⟨_, _, h2, _⟩ := kl_open h hk
    exact .inr h2
theorem up_get (L : List ND) (i : Nat) (hi : i < L.length) : i + 3 < (upN ++ L.map sh).length ∧ (upN ++ L.map sh).getD (i + 3) (bare 0 .empty 0) = sh (L.getD i (bare 0 .empty 0)) := by
  refine ⟨by simp [upN]; omega, ?_⟩
  rw [List.getD_eq_getElem?_getD, List.getElem?_append_right (by simp [upN])]
  have e : i + 3 - upN.length = i := by simp [upN]
  rw [e, List.getElem?_map, List.getD_eq_getElem?_getD, List.getElem?_eq_getElem hi]
  rfl
theorem snd_sh {n : ND} {b : Nat} (h : sndB n = true) (hf : n.first = -1 ∨ n.first = (b : Int)) : sndB (sh n) = true := by
  have e1 : (sh n).kind = n.kind := rfl
  have e2 : (sh n).times = n.times := rfl
  have e3 : (sh n).set = n.set := rfl
  have e4 : (sh n).first = sx n.first := rfl
  have e5 : (sh n).next = sx n.next := rfl
  have e6 : (sh n).group = if n.kind = 4 then n.group + 1 else n.group := rfl
  have ef : sx n.first = -1 ↔ n.first = -1 := by
    unfold sx
    split <;> omega
  unfold sndB at h ⊢
  rw [e1, e2, e3, e4, e5, e6]
  by_cases k1 : n.kind = 1
  · rw [if_pos k1] at h ⊢
    rw [if_neg (by omega)]
    simpa [ef] using h
  · rw [if_neg k1] at h ⊢
    by_cases k2 : n.kind = 2
    · rw [if_pos k2] at h ⊢
      rw [if_neg (by omega)]
      exact h
    · rw [if_neg k2] at h ⊢
      by_cases k3 : n.kind = 3
      · rw [if_pos k3] at h ⊢
        rw [if_neg (by omega)]
        simp at h
        have hn : sx (-1) = -1 := rfl
        simp [ef, hn, h]
      · rw [if_neg k3] at h ⊢
        by_cases k4 : n.kind = 4
        · rw [if_pos k4] at h ⊢
          simpa [ef] using h
        · rw [if_neg k4] at h
          cases h
theorem kl_sh {L : List ND} : ∀ (f : Nat) (kd : Int) (nx : Nat) (k : Int) (e : Nat), kl L f kd nx k = some e → kl (upN ++ L.map sh) f kd (nx + 3) (sx k) = some (e + 3)
  | f, kd, nx, k, e, h => by
    by_cases hk : k = -1
    · subst hk
      rw [kl_end] at h
      injection h with h
      subst h
      exact kl_end _ _ _ _
    · cases f with
      | zero => unfold kl at h; rw [if_neg hk] at h; cases h
      | succ f =>
        unfold kl at h
        rw [if_neg hk] at h
        split at h
        · rename_i hlt
          split at h
          · rename_i hh
            obtain ⟨hkn, hm, hs⟩ := hh
            split at h
            · cases h
            · rename_i k2 hk2
              have i1 := kl_sh f _ _ _ _ hk2
              have i2 := kl_sh f _ _ _ _ h
              obtain ⟨u1, u2⟩ := up_get L nx hlt
              have hg : L.getD nx (bare 0 .empty 0) = L[nx] := by rw [List.getD_eq_getElem?_getD, List.getElem?_eq_getElem hlt]; rfl
              rw [hg] at u2
              rw [hkn, sx_nat]
              refine kl_step u1 u2 hm ?_ ?_ i2
              · rcases kl_first hk2 with k | k
                · exact snd_sh (b := 0) hs (.inl k)
                · exact snd_sh hs (.inr k)
              · rw [show nx + 3 + 1 = nx + 1 + 3 by omega]
                exact i1
          · cases h
        · cases h
theorem beh_sh {L : List ND} {f p e : Nat} (h : beh L f p = some e) : beh (upN ++ L.map sh) f (p + 3) = some (e + 3) := by
  have hs := beh_snd h
  obtain ⟨h1, h2, _, _⟩ := beh_open h
  have i := kl_sh f _ _ _ _ h2
  obtain ⟨u1, u2⟩ := up_get L p h1
  have ug : (upN ++ L.map sh)[p + 3] = sh (L.getD p (bare 0 .empty 0)) := by
    rw [List.getD_eq_getElem?_getD, List.getElem?_eq_getElem u1] at u2
    exact u2
  unfold beh
  rw [dif_pos u1, ug]
  have hs2 : sndB (sh (L.getD p (bare 0 .empty 0))) = true := by
    rcases kl_first h2 with k | k
    · exact snd_sh (b := 0) hs (.inl k)
    · exact snd_sh hs (.inr k)
  rw [if_pos hs2, show p + 3 + 1 = p + 1 + 3 by omega]
  exact i
theorem grp_up {L : List ND} {g a : Int} (h : chkR L g = 0) (ha : 1 ≤ a) {p k : Nat} (hg : GrpAt L a p k) : GrpAt (upN ++ L.map sh) (a + 1) (p + 3) (k + 3) := by
  have hk : ∀ n ∈ L, n.kind = 4 ∨ n.group = 0 := by
    intro n hn
    obtain ⟨i, hi, rfl⟩ := List.mem_iff_getElem.1 hn
    have := snd_group (tree_snd h i hi)
    rwa [List.getD_eq_getElem?_getD, List.getElem?_eq_getElem hi] at this
  refine ⟨plc_up ha hk hg.pl, beh_up (by simp) (beh_sh hg.be), by have := hg.lt; omega, fun _ => ?_⟩
  rw [(up_get L p (plc_is hg.pl).1).2]
  exact hg.kd ha
theorem hd_up {L : List ND} {g a b : Int} (h : chkR L g = 0) (a0 : 1 ≤ a) (a1 : a ≤ g) (b0 : 1 ≤ b) (b1 : b ≤ g) : hdB (upN ++ L.map sh) (a + 1) (b + 1) = hdB L a b := by
  obtain ⟨p, k, ha⟩ := grp_at h (by omega) a1
  obtain ⟨q, l, hb⟩ := grp_at h (by omega) b1
  have i1 := hd_iff ha hb
  have i2 := hd_iff (grp_up h a0 ha) (grp_up h b0 hb)
  rw [Bool.eq_iff_iff, i1, i2]
  omega
/-- A pattern in parentheses, without ^ and $. -/
theorem par_up {t : List UInt8} (h : (parP t).2.1 = 0) (hl : t.length ≤ 62) (hb : (parP t).1.b = false) (he : (parP t).1.en = false) (h9 : (parP t).1.g ≠ 9) :
    parP ([40] ++ t ++ [41]) = (⟨upN ++ (parP t).1.L.map sh, false, false, (parP t).1.g + 1⟩, 0, 0) := by
  obtain ⟨_, bb, en, c, x, ht, g1, g2, e⟩ := par_s h
  rw [e] at hb he h9 ⊢
  dsimp only at hb he h9 ⊢
  subst hb he
  have ht : t = x := by rw [ht]; simp
  subst ht
  have gg : GQ (parC c) ([40] ++ t ++ [41]) := by
    refine ⟨[40] ++ t ++ [41], [], ⟨t, g1, .inl rfl, by simp [signL]⟩, rfl, by simp⟩
  have k := par_c false false gg (by show gcQ c + 1 + 0 ≤ 9; omega) ([40] ++ t ++ [41]) (by simp) (by simp; omega)
  rw [k, flT_par]
  rfl
theorem hd_first {t : List UInt8} (h : (parP t).2.1 = 0) {b : Int} (b0 : 1 ≤ b) (b1 : b ≤ (parP t).1.g) : hdB (upN ++ (parP t).1.L.map sh) 1 (b + 1) = true := by
  have hc := par_chk h
  obtain ⟨_, bb, en, c, x, ht, g1, g2, e⟩ := par_s h
  rw [e] at b1 hc ⊢
  dsimp only at b1 hc ⊢
  obtain ⟨q, l, hb⟩ := grp_at hc (by omega) b1
  have hq := plc_is hb.pl
  have hu := grp_up hc b0 hb
  have hw := (wf_Q c x g1).1
  have hfl := flT_par c
  have hlen : (upN ++ (flT c).map sh).length = szQ c + 4 := by rw [List.length_append, List.length_map, flT_len]; simp [upN]; omega
  have hA : At (upN ++ (flT c).map sh) 2 (flP 2 0 (-1) (.grp c 0)) := by
    rw [← hfl]
    have a1 := (At.all (flT (parC c)))
    unfold flT parC at a1
    have a2 := a1.cons.2.2
    unfold flQ at a2
    have a3 := a2.cons.2.2
    unfold flS at a3
    exact a3.app.1
  obtain ⟨n, h1, h2, _, h4, _, h6⟩ := kl_P _ (.grp c 0) 2 0 (-1) (szQ c + 4) hA ⟨hw, .inl rfl⟩ (by show szQ c + 2 ≤ _; omega)
  have hbe : beh (upN ++ (flT c).map sh) (upN ++ (flT c).map sh).length 2 = some (szQ c + 4) := by
    have ug : (upN ++ (flT c).map sh)[2] = n := by
      rw [List.getD_eq_getElem?_getD, List.getElem?_eq_getElem h2] at h1
      exact h1
    unfold beh
    rw [dif_pos h2, ug, if_pos h4, hlen, h6]
    show some (2 + (szQ c + 2)) = _
    congr 1
    omega
  have h0 : GrpAt (upN ++ (flT c).map sh) 1 2 (szQ c + 4) := ⟨rfl, hbe, by omega, fun _ => rfl⟩
  refine (hd_iff h0 hu).2 ⟨by omega, ?_⟩
  have := hq.1
  rw [flT_len] at this
  omega
end Go.Proofs.YtdnbnigebejgjaaGreatDoor
