/-
  How much the parser of package pattern reads, and how many nodes it makes, purely: each piece reads a byte at least (or finds a fault), and nodes are at most four for each byte.
-/
import Derived.Test.YtdnbnigebejgjaaGreatDoorHQ6
namespace Go.Proofs.YtdnbnigebejgjaaGreatDoor
open Go.RowKit
theorem vl_need {t : List UInt8} {s : RS} {x : List UInt8} (h : 0 < vl t s) (hx : 0 < x.length) : vl t (needR t s x) < vl t s := by
  unfold needR
  split
  · rename_i h1
    have := vl_take h1
    omega
  · rw [vl_fail _ _ _ _ (by omega)]; exact h
theorem vl_clsL (t : List UInt8) : ∀ (n : Nat) (s : RS) (w : WSet), vl t (clsL t n s w).2 ≤ vl t s
  | 0, s, w => Nat.le_refl _
  | n + 1, s, w => by
    unfold clsL
    split
    · rename_i h
      have := vl_el (vl_sees h)
      exact Nat.le_trans (vl_clsL t n _ _) (Nat.le_of_lt this)
    · exact Nat.le_refl _
theorem vl_el_le (t : List UInt8) (s : RS) : vl t (elR t s) ≤ vl t s := by
  unfold elR
  split
  · rename_i h1; exact Nat.le_of_lt (vl_named h1)
  · split
    · split
      · exact Nat.le_trans (vl_cb_le _ _) (Nat.le_trans (vl_take_le _ _ _) (vl_cb_le _ _))
      · rw [vl_fail _ _ _ _ (by omega)]; exact Nat.zero_le _
    · exact vl_cb_le _ _
theorem vl_cls_le (t : List UInt8) (s : RS) : vl t (clsR t s) ≤ vl t s := by
  have h1 : vl t (clsIn t s).2 ≤ vl t s := Nat.le_trans (vl_clsL _ _ _ _) (Nat.le_trans (vl_el_le _ _) (vl_take_le _ _ _))
  unfold clsR clsEnd
  refine Nat.le_trans (vl_need_le _ _ _) ?_
  split
  · rw [vl_fail _ _ _ _ (by omega)]; exact Nat.zero_le _
  · exact h1
theorem vl_set {t : List UInt8} {s : RS} (h : 0 < vl t s) : vl t (setR t s) < vl t s := by
  unfold setR
  split
  · rename_i h1; exact vl_named h1
  · split
    · rename_i h1
      have := vl_take h1
      simp at this
      omega
    · split
      · rename_i h1
        have := vl_take h1
        have h2 := vl_cls_le t (takeR t s [91])
        simp at this
        omega
      · cases h1 : takeB t s [92] with
        | true =>
          have := vl_take h1
          have h2 := vl_one_le t (takeR t s [92]) []
          simp at this
          omega
        | false => rw [takeR_no h1]; exact vl_one _ h
theorem vl_times_le (t : List UInt8) (s : RS) : ∀ l : List Nat, vl t (timesR t s l) ≤ vl t s
  | [] => Nat.le_refl _
  | x :: l => by
    unfold timesR
    split
    · exact vl_take_le _ _ _
    · exact vl_times_le t s l
/-- What nodes and bytes come to. -/
def pot (t : List UInt8) (s : PS) : Nat := s.L.length + 4 * vl t s.r
def gp (t : List UInt8) (s : PS) : Nat := s.g + vl t s.r
structure JLE (t : List UInt8) (c : Nat) (s s' : PS) : Prop where
  v0 : vl t s'.r ≤ vl t s.r
  p0 : pot t s' ≤ pot t s + c
  g0 : gp t s' ≤ gp t s
  l0 : s.L.length ≤ s'.L.length
theorem JLE.refl (t : List UInt8) (s : PS) : JLE t 0 s s := ⟨Nat.le_refl _, Nat.le_refl _, Nat.le_refl _, Nat.le_refl _⟩
theorem JLE.trans {t : List UInt8} {c d : Nat} {a b e : PS} (h : JLE t c a b) (k : JLE t d b e) : JLE t (c + d) a e :=
  ⟨Nat.le_trans k.v0 h.v0, by have := h.p0; have := k.p0; omega, Nat.le_trans k.g0 h.g0, Nat.le_trans h.l0 k.l0⟩
theorem JLE.mono {t : List UInt8} {c d : Nat} {a b : PS} (h : JLE t c a b) (hc : c ≤ d) : JLE t d a b := ⟨h.v0, Nat.le_trans h.p0 (by omega), h.g0, h.l0⟩
theorem JLE.add (t : List UInt8) (s : PS) (n : ND) : JLE t 1 s (addP s n) := by
  refine ⟨Nat.le_refl _, ?_, Nat.le_refl _, ?_⟩
  · simp [pot, addP]; omega
  · simp [addP]
theorem JLE.adopt (t : List UInt8) (s : PS) (a : Nat) (ks : List Nat) : JLE t 0 s (adoptP s a ks) := by
  refine ⟨Nat.le_refl _, ?_, Nat.le_refl _, ?_⟩
  · simp [pot, adoptP, adoptL_length]
  · simp [adoptP, adoptL_length]
theorem JLE.read {t : List UInt8} {s : PS} {r : RS} (h : vl t r ≤ vl t s.r) : JLE t 0 s { s with r := r } := ⟨h, by simp [pot]; omega, by simp [gp]; omega, Nat.le_refl _⟩
/-- A way of reading a piece that reads a byte at least. -/
structure PG (t : List UInt8) (f : Nat) (pc : PS → Nat × PS) : Prop where
  le : ∀ s, 0 < vl t s.r → vl t s.r ≤ f → JLE t 0 s (pc s).2
  lt : ∀ s, 0 < vl t s.r → vl t s.r ≤ f → vl t (pc s).2.r < vl t s.r
  kid : ∀ s, 0 < vl t s.r → vl t s.r ≤ f → (pc s).1 < (pc s).2.L.length
theorem seqLoop_le {t : List UInt8} {f : Nat} {pc : PS → Nat × PS} (h : PG t f pc) : ∀ (n : Nat) (s : PS) (l : List Nat), vl t s.r ≤ f → JLE t 0 s (seqLoop t pc n s l).2
  | 0, s, l, _ => JLE.refl t s
  | n + 1, s, l, hf => by
    unfold seqLoop
    split
    · rename_i h1
      have := vl_sees h1
      have h2 := h.le s this hf
      exact h2.trans (seqLoop_le h n _ _ (Nat.le_trans h2.v0 hf))
    · exact JLE.refl t s
theorem seqLoop_kids {t : List UInt8} {f : Nat} {pc : PS → Nat × PS} (h : PG t f pc) : ∀ (n : Nat) (s : PS) (l : List Nat), vl t s.r ≤ f → (∀ k ∈ l, k < s.L.length) → ∀ k ∈ (seqLoop t pc n s l).1, k < (seqLoop t pc n s l).2.L.length
  | 0, s, l, _, hl => hl
  | n + 1, s, l, hf, hl => by
    unfold seqLoop
    split
    · rename_i h1
      have h2 := vl_sees h1
      have h3 := h.le s h2 hf
      refine seqLoop_kids h n _ _ (Nat.le_trans h3.v0 hf) fun k hk => ?_
      rcases List.mem_append.1 hk with hk | hk
      · exact Nat.lt_of_lt_of_le (hl k hk) h3.l0
      · rw [List.mem_singleton.1 hk]; exact h.kid s h2 hf
    · exact hl
theorem seqP_le {t : List UInt8} {f : Nat} {pc : PS → Nat × PS} (h : PG t f pc) (s : PS) (hf : vl t s.r ≤ f) : JLE t 1 s (seqP t pc s).2 :=
  ((JLE.add t s _).trans (seqLoop_le h _ _ _ hf)).trans (JLE.adopt t _ _ _)
theorem seqP_kid {t : List UInt8} {f : Nat} {pc : PS → Nat × PS} (h : PG t f pc) (s : PS) (hf : vl t s.r ≤ f) : (seqP t pc s).1 < (seqP t pc s).2.L.length := by
  have h1 := (seqLoop_le h t.length (addP s (bare 2 .empty 0)) [] hf).l0
  show s.L.length < (adoptL _ _ _).length
  rw [adoptL_length]
  have : (addP s (bare 2 .empty 0)).L.length = s.L.length + 1 := by simp [addP]
  omega
theorem choStep {t : List UInt8} {f : Nat} {pc : PS → Nat × PS} (h : PG t f pc) {s : PS} (hf : vl t s.r ≤ f) (h1 : takeB t s.r [124] = true) : JLE t 0 s (seqP t pc { s with r := takeR t s.r [124] }).2 := by
  have h2 := vl_take h1
  simp at h2
  have h4 := seqP_le h { s with r := takeR t s.r [124] } (Nat.le_trans (vl_take_le _ _ _) hf)
  refine ⟨Nat.le_trans h4.v0 (vl_take_le _ _ _), ?_, Nat.le_trans h4.g0 ?_, h4.l0⟩
  · have h5 := h4.p0
    simp only [pot] at h5 ⊢
    omega
  · simp only [gp]; omega
theorem choLoop_le {t : List UInt8} {f : Nat} {pc : PS → Nat × PS} (h : PG t f pc) : ∀ (n : Nat) (s : PS) (l : List Nat), vl t s.r ≤ f → JLE t 0 s (choLoop t pc n s l).2
  | 0, s, l, _ => JLE.refl t s
  | n + 1, s, l, hf => by
    unfold choLoop
    split
    · rename_i h1
      have h3 := choStep h hf h1
      exact h3.trans (choLoop_le h n _ _ (Nat.le_trans h3.v0 hf))
    · exact JLE.refl t s
theorem choLoop_kids {t : List UInt8} {f : Nat} {pc : PS → Nat × PS} (h : PG t f pc) : ∀ (n : Nat) (s : PS) (l : List Nat), vl t s.r ≤ f → (∀ k ∈ l, k < s.L.length) → ∀ k ∈ (choLoop t pc n s l).1, k < (choLoop t pc n s l).2.L.length
  | 0, s, l, _, hl => hl
  | n + 1, s, l, hf, hl => by
    unfold choLoop
    split
    · rename_i h1
      have h3 := choStep h hf h1
      refine choLoop_kids h n _ _ (Nat.le_trans h3.v0 hf) fun k hk => ?_
      rcases List.mem_append.1 hk with hk | hk
      · exact Nat.lt_of_lt_of_le (hl k hk) h3.l0
      · rw [List.mem_singleton.1 hk]; exact seqP_kid h _ (Nat.le_trans (vl_take_le _ _ _) hf)
    · exact hl
theorem choP_le {t : List UInt8} {f : Nat} {pc : PS → Nat × PS} (h : PG t f pc) (s : PS) (hf : vl t s.r ≤ f) : JLE t 2 s (choP t pc s).2 := by
  have h1 := (JLE.add t s (bare 3 .empty 0)).trans (seqP_le h (addP s (bare 3 .empty 0)) hf)
  exact (h1.trans (choLoop_le h _ _ _ (Nat.le_trans h1.v0 hf))).trans (JLE.adopt t _ _ _)
theorem choP_kid {t : List UInt8} {f : Nat} {pc : PS → Nat × PS} (h : PG t f pc) (s : PS) (hf : vl t s.r ≤ f) : (choP t pc s).1 < (choP t pc s).2.L.length := by
  have h0 := seqP_le h (addP s (bare 3 .empty 0)) hf
  have h1 := (h0.trans (choLoop_le h t.length (seqP t pc (addP s (bare 3 .empty 0))).2 [(seqP t pc (addP s (bare 3 .empty 0))).1] (Nat.le_trans h0.v0 hf))).l0
  show s.L.length < (adoptL _ _ _).length
  rw [adoptL_length]
  have : (addP s (bare 3 .empty 0)).L.length = s.L.length + 1 := by simp [addP]
  omega
theorem setTimes_length (L : List ND) (a x : Nat) : (setTimes L a x).length = L.length := by
  unfold setTimes
  rw [List.length_modify]
/-- The state of a group behind its parenthesis. -/
def grp1 (t : List UInt8) (s : PS) : PS :=
  let s0 : PS := if s.g = 9 then { s with r := failR s.r 14 s.r.k } else s
  { s0 with r := needR t s0.r [40], g := s0.g + 1 }
theorem grp1_facts {t : List UInt8} {s : PS} (h : 0 < vl t s.r) : vl t (grp1 t s).r < vl t s.r ∧ (grp1 t s).L = s.L ∧ (grp1 t s).g = s.g + 1 := by
  unfold grp1
  by_cases h9 : s.g = 9
  · simp only [if_pos h9]
    refine ⟨?_, trivial, trivial⟩
    have h1 := vl_need_le t (failR s.r 14 s.r.k) [40]
    rw [vl_fail _ _ _ _ (by omega)] at h1
    omega
  · simp only [if_neg h9]
    exact ⟨vl_need h (by simp), trivial, trivial⟩
theorem grp_le {t : List UInt8} {f : Nat} {pc : PS → Nat × PS} (h : PG t f pc) {s : PS} (hs : 0 < vl t s.r) (hf : vl t s.r ≤ f + 1) : JLE t 0 s (grpP t pc s).2 ∧ vl t (grpP t pc s).2.r < vl t s.r ∧ (grpP t pc s).1 < (grpP t pc s).2.L.length := by
  obtain ⟨f1, f2, f3⟩ := grp1_facts hs
  have hf2 : vl t (addP (grp1 t s) (bare 4 .empty ((grp1 t s).g : Int))).r ≤ f := by show vl t (grp1 t s).r ≤ f; omega
  have h2 := (JLE.add t (grp1 t s) (bare 4 .empty ((grp1 t s).g : Int))).trans (choP_le h _ hf2)
  have h3 := h2.trans (JLE.adopt t _ s.L.length [(choP t pc (addP (grp1 t s) (bare 4 .empty ((grp1 t s).g : Int)))).1])
  obtain ⟨q, hq⟩ : ∃ q, adoptP (choP t pc (addP (grp1 t s) (bare 4 .empty ((grp1 t s).g : Int)))).2 s.L.length [(choP t pc (addP (grp1 t s) (bare 4 .empty ((grp1 t s).g : Int)))).1] = q := ⟨_, rfl⟩
  rw [hq] at h3
  have e : (grpP t pc s).2 = { q with r := timesR t (needR t q.r [41]) [3], L := setTimes q.L s.L.length (timesV t (needR t q.r [41]) [3]) } := by rw [← hq]; rfl
  have hv : vl t (timesR t (needR t q.r [41]) [3]) ≤ vl t q.r := Nat.le_trans (vl_times_le _ _ _) (vl_need_le _ _ _)
  have a1 := h3.v0
  have a2 := h3.p0
  have a3 := h3.g0
  have a4 := h3.l0
  simp only [pot, gp] at a2 a3
  rw [f2] at a2 a4
  rw [f3] at a3
  rw [e]
  refine ⟨⟨by dsimp only; omega, ?_, ?_, ?_⟩, by dsimp only; omega, ?_⟩
  · simp only [pot, setTimes_length]; omega
  · simp only [gp]; omega
  · simp only [setTimes_length]; omega
  · show s.L.length < _
    simp only [setTimes_length]
    have h5 := ((choP_le h (addP (grp1 t s) (bare 4 .empty ((grp1 t s).g : Int))) hf2).trans (JLE.adopt t _ s.L.length [(choP t pc (addP (grp1 t s) (bare 4 .empty ((grp1 t s).g : Int)))).1])).l0
    rw [hq] at h5
    have : (addP (grp1 t s) (bare 4 .empty ((grp1 t s).g : Int))).L.length = s.L.length + 1 := by simp [addP, f2]
    omega
theorem atom_le {t : List UInt8} {s : PS} (hs : 0 < vl t s.r) : JLE t 0 s (atomP t s).2 ∧ vl t (atomP t s).2.r < vl t s.r ∧ (atomP t s).1 < (atomP t s).2.L.length := by
  have h1 := vl_set hs
  have h2 := vl_times_le t (setR t s.r) [1, 2, 3]
  have e : (atomP t s).2.r = timesR t (setR t s.r) [1, 2, 3] := rfl
  have el : (atomP t s).2.L.length = s.L.length + 1 := by
    show (setTimes _ _ _).length = _
    rw [setTimes_length]
    simp [addP]
  have eg : (atomP t s).2.g = s.g := rfl
  refine ⟨⟨by rw [e]; omega, ?_, ?_, by omega⟩, by rw [e]; omega, ?_⟩
  · simp only [pot]; rw [e, el]; omega
  · simp only [gp]; rw [e, eg]; omega
  · show s.L.length < _; omega
theorem pcP_good (t : List UInt8) : ∀ f, PG t f (pcP t f)
  | 0 => ⟨fun s h1 h2 => absurd h1 (by omega), fun s h1 h2 => absurd h1 (by omega), fun s h1 h2 => absurd h1 (by omega)⟩
  | f + 1 => by
    have ih := pcP_good t f
    have key : ∀ s, 0 < vl t s.r → vl t s.r ≤ f + 1 → JLE t 0 s (pcP t (f + 1) s).2 ∧ vl t (pcP t (f + 1) s).2.r < vl t s.r ∧ (pcP t (f + 1) s).1 < (pcP t (f + 1) s).2.L.length := by
      intro s h1 h2
      show JLE t 0 s (pieceP t (pcP t f) s).2 ∧ vl t (pieceP t (pcP t f) s).2.r < vl t s.r ∧ (pieceP t (pcP t f) s).1 < (pieceP t (pcP t f) s).2.L.length
      unfold pieceP
      split
      · exact grp_le ih h1 h2
      · exact atom_le h1
    exact ⟨fun s h1 h2 => (key s h1 h2).1, fun s h1 h2 => (key s h1 h2).2.1, fun s h1 h2 => (key s h1 h2).2.2⟩
end Go.Proofs.YtdnbnigebejgjaaGreatDoor
