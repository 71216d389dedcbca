/-
  Reading a pattern never looks at the nodes that were read before: what is read is put behind them. Children that are linked at once, and children that are linked at the end, come to the same.
  The reference links children at once and finds some faults sooner: both come to what the parser of package pattern says.
  Choices and groups of the reference, purely.
-/
import Derived.Test.YtdnbnigebejgjaaGreatDoorHJP2
namespace Go.Proofs.YtdnbnigebejgjaaGreatDoor
open Go.RowKit
theorem putL_right (A X : List ND) (i : Nat) (b : Bool) (v : Nat) : putL (A ++ X) (A.length + i, b) v = A ++ putL X (i, b) v := by
  unfold putL
  dsimp only
  induction A with
  | nil => simp
  | cons a A ih =>
    rw [List.length_cons, show A.length + 1 + i = (A.length + i) + 1 by omega, List.cons_append, List.modify_succ_cons, ih, List.cons_append]
theorem putL_left (A X : List ND) (p : Nat × Bool) (hp : p.1 < A.length) (v : Nat) : putL (A ++ X) p v = putL A p v ++ X := by
  obtain ⟨i, b⟩ := p
  unfold putL
  dsimp only at hp ⊢
  induction A generalizing i with
  | nil => exact absurd hp (by simp)
  | cons a A ih =>
    cases i with
    | zero => rfl
    | succ i => rw [List.cons_append, List.modify_succ_cons, List.modify_succ_cons, ih i (by simpa using hp), List.cons_append]
/-- The place behind some children. -/
def plc2 (p : Nat × Bool) : List Nat → Nat × Bool
  | [] => p
  | k :: l => plc2 (k, true) l
theorem adoptL_snoc (x : Nat) : ∀ (l : List Nat) (A : List ND) (p : Nat × Bool), adoptL A p (l ++ [x]) = putL (adoptL A p l) (plc2 p l) x
  | [], _, _ => rfl
  | k :: l, A, p => by
    rw [List.cons_append, adoptL, adoptL, plc2]
    exact adoptL_snoc x l _ _
theorem plc2_snoc (x : Nat) : ∀ (l : List Nat) (p : Nat × Bool), plc2 p (l ++ [x]) = (x, true)
  | [], _ => rfl
  | k :: l, _ => plc2_snoc x l (k, true)
theorem plc2_lt {n : Nat} : ∀ (l : List Nat) (p : Nat × Bool), p.1 < n → (∀ k ∈ l, k < n) → (plc2 p l).1 < n
  | [], _, h, _ => h
  | k :: l, _, _, h => plc2_lt l (k, true) (h k (List.mem_cons_self ..)) (fun j hj => h j (List.mem_cons_of_mem _ hj))
theorem adoptL_left (X : List ND) : ∀ (l : List Nat) (A : List ND) (p : Nat × Bool), p.1 < A.length → (∀ k ∈ l, k < A.length) → adoptL (A ++ X) p l = adoptL A p l ++ X
  | [], _, _, _, _ => rfl
  | k :: l, A, p, hp, hl => by
    rw [adoptL, adoptL, putL_left A X p hp k]
    exact adoptL_left X l (putL A p k) (k, true) (by rw [putL_length]; exact hl k (List.mem_cons_self ..)) (fun j hj => by rw [putL_length]; exact hl j (List.mem_cons_of_mem _ hj))
theorem adoptL_left_snoc (X : List ND) (l : List Nat) (x : Nat) (A : List ND) (p : Nat × Bool) (hp : p.1 < A.length) (hl : ∀ k ∈ l, k < A.length) : adoptL (A ++ X) p (l ++ [x]) = adoptL A p (l ++ [x]) ++ X := by
  rw [adoptL_snoc, adoptL_snoc, adoptL_left X l A p hp hl]
  exact putL_left _ _ _ (by rw [adoptL_length]; exact plc2_lt l p hp hl) _
/-- Children linked in nodes that stand behind n others. -/
def adoptS (n : Nat) (L : List ND) (p : Nat × Bool) : List Nat → List ND
  | [] => L
  | k :: l => adoptS n (putL L p k) (k - n, true) l
theorem adoptL_right (A : List ND) : ∀ (l : List Nat) (X : List ND) (i : Nat) (b : Bool), (∀ k ∈ l, A.length ≤ k) → adoptL (A ++ X) (A.length + i, b) l = A ++ adoptS A.length X (i, b) l
  | [], _, _, _, _ => rfl
  | k :: l, X, i, b, hl => by
    have hk := hl k (List.mem_cons_self ..)
    rw [adoptL, adoptS, putL_right]
    have h := adoptL_right A l (putL X (i, b) k) (k - A.length) true (fun j hj => hl j (List.mem_cons_of_mem _ hj))
    rw [show A.length + (k - A.length) = k by omega] at h
    exact h
theorem adoptL_right0 (A X : List ND) (n : Nat) (hn : A.length = n) (b : Bool) (l : List Nat) (hl : ∀ k ∈ l, n ≤ k) : adoptL (A ++ X) (n, b) l = A ++ adoptS n X (0, b) l := by
  subst hn
  exact adoptL_right A l X 0 b hl
/-- A way of reading that puts its nodes behind those that are there, and does not look at these. -/
def Frm (t : List UInt8) (f : Nat) (pc : PS → Nat × PS) : Prop := ∀ (r : RS) (n g : Nat), 0 < vl t r → vl t r ≤ f → ∃ X r' g', ∀ L : List ND, L.length = n → pc ⟨r, L, g⟩ = (n, ⟨r', L ++ X, g'⟩)
theorem frm_vl {t : List UInt8} {f : Nat} {pc : PS → Nat × PS} (hG : PG t f pc) {r r' : RS} {n g g' : Nat} {X : List ND} (h0 : 0 < vl t r) (h1 : vl t r ≤ f) (h : ∀ L : List ND, L.length = n → pc ⟨r, L, g⟩ = (n, ⟨r', L ++ X, g'⟩)) : vl t r' ≤ vl t r := by
  have h2 := hG.lt ⟨r, List.replicate n (bare 0 .empty 0), g⟩ h0 h1
  rw [h _ List.length_replicate] at h2
  exact Nat.le_of_lt h2
theorem seqLoop_frm {t : List UInt8} {f : Nat} {pc : PS → Nat × PS} (hG : PG t f pc) (h : Frm t f pc) : ∀ (m : Nat) (r : RS) (n g : Nat) (l : List Nat), vl t r ≤ f → ∃ X r' g' ks, vl t r' ≤ vl t r ∧ (∀ k ∈ ks, n ≤ k) ∧ ∀ L : List ND, L.length = n → seqLoop t pc m ⟨r, L, g⟩ l = (l ++ ks, ⟨r', L ++ X, g'⟩)
  | 0, r, n, g, l, _ => ⟨[], r, g, [], Nat.le_refl _, by simp, fun L _ => by simp [seqLoop]⟩
  | m + 1, r, n, g, l, hf => by
    cases hs : seesB t r behindL with
    | false => exact ⟨[], r, g, [], Nat.le_refl _, by simp, fun L _ => by simp [seqLoop, hs]⟩
    | true =>
      obtain ⟨X, r', g', h1⟩ := h r n g (vl_sees hs) hf
      have hv := frm_vl hG (vl_sees hs) hf h1
      obtain ⟨X2, r2, g2, ks, hv2, hk, h2⟩ := seqLoop_frm hG h m r' (n + X.length) g' (l ++ [n]) (Nat.le_trans hv hf)
      refine ⟨X ++ X2, r2, g2, n :: ks, Nat.le_trans hv2 hv, fun k hm => ?_, fun L hL => ?_⟩
      · rcases List.mem_cons.1 hm with rfl | hm
        · exact Nat.le_refl _
        · exact Nat.le_trans (Nat.le_add_right _ _) (hk k hm)
      · unfold seqLoop
        rw [if_pos hs, h1 L hL, h2 (L ++ X) (by rw [List.length_append, hL])]
        simp
theorem seqP_frm {t : List UInt8} {f : Nat} {pc : PS → Nat × PS} (hG : PG t f pc) (h : Frm t f pc) (r : RS) (n g : Nat) (hf : vl t r ≤ f) : ∃ X r' g', vl t r' ≤ vl t r ∧ ∀ L : List ND, L.length = n → seqP t pc ⟨r, L, g⟩ = (n, ⟨r', L ++ X, g'⟩) := by
  obtain ⟨X, r', g', ks, hv, hk, h1⟩ := seqLoop_frm hG h t.length r (n + 1) g [] hf
  refine ⟨adoptS n (bare 2 .empty 0 :: X) (0, false) ks, r', g', hv, fun L hL => ?_⟩
  have h2 := h1 (L ++ [bare 2 .empty 0]) (by rw [List.length_append, hL]; rfl)
  have e : (addP ⟨r, L, g⟩ (bare 2 .empty 0)) = ⟨r, L ++ [bare 2 .empty 0], g⟩ := rfl
  unfold seqP adoptP
  rw [e, h2]
  dsimp only
  rw [List.nil_append, List.append_assoc]
  show (L.length, PS.mk r' (adoptL (L ++ (bare 2 .empty 0 :: X)) (L.length, false) ks) g') = _
  rw [hL, adoptL_right0 L _ n hL false ks (fun k hm => Nat.le_trans (Nat.le_succ n) (hk k hm))]
theorem vl_take_f {t : List UInt8} {r : RS} {f : Nat} (x : List UInt8) (hf : vl t r ≤ f) : vl t (takeR t r x) ≤ f := Nat.le_trans (vl_take_le _ _ _) hf
theorem choLoop_frm {t : List UInt8} {f : Nat} {pc : PS → Nat × PS} (hG : PG t f pc) (h : Frm t f pc) : ∀ (m : Nat) (r : RS) (n g : Nat) (l : List Nat), vl t r ≤ f → ∃ X r' g' ks, (∀ k ∈ ks, n ≤ k) ∧ ∀ L : List ND, L.length = n → choLoop t pc m ⟨r, L, g⟩ l = (l ++ ks, ⟨r', L ++ X, g'⟩)
  | 0, r, n, g, l, _ => ⟨[], r, g, [], by simp, fun L _ => by simp [choLoop]⟩
  | m + 1, r, n, g, l, hf => by
    cases hs : takeB t r [124] with
    | false => exact ⟨[], r, g, [], by simp, fun L _ => by simp [choLoop, hs]⟩
    | true =>
      obtain ⟨X, r', g', hv, h1⟩ := seqP_frm hG h (takeR t r [124]) n g (vl_take_f _ hf)
      obtain ⟨X2, r2, g2, ks, hk, h2⟩ := choLoop_frm hG h m r' (n + X.length) g' (l ++ [n]) (Nat.le_trans hv (vl_take_f _ hf))
      refine ⟨X ++ X2, r2, g2, n :: ks, fun k hm => ?_, fun L hL => ?_⟩
      · rcases List.mem_cons.1 hm with rfl | hm
        · exact Nat.le_refl _
        · exact Nat.le_trans (Nat.le_add_right _ _) (hk k hm)
      · unfold choLoop
        rw [if_pos hs]
        show choLoop t pc m (seqP t pc ⟨takeR t r [124], L, g⟩).2 (l ++ [(seqP t pc ⟨takeR t r [124], L, g⟩).1]) = _
        rw [h1 L hL, h2 (L ++ X) (by rw [List.length_append, hL])]
        simp
theorem choP_frm {t : List UInt8} {f : Nat} {pc : PS → Nat × PS} (hG : PG t f pc) (h : Frm t f pc) (r : RS) (n g : Nat) (hf : vl t r ≤ f) : ∃ X r' g', ∀ L : List ND, L.length = n → choP t pc ⟨r, L, g⟩ = (n, ⟨r', L ++ X, g'⟩) := by
  obtain ⟨X0, r0, g0, hv, h0⟩ := seqP_frm hG h r (n + 1) g hf
  obtain ⟨X, r', g', ks, hk, h1⟩ := choLoop_frm hG h t.length r0 (n + 1 + X0.length) g0 [n + 1] (Nat.le_trans hv hf)
  refine ⟨adoptS n (bare 3 .empty 0 :: (X0 ++ X)) (0, false) ((n + 1) :: ks), r', g', fun L hL => ?_⟩
  have h2 := h0 (L ++ [bare 3 .empty 0]) (by rw [List.length_append, hL]; rfl)
  have h3 := h1 (L ++ [bare 3 .empty 0] ++ X0) (by rw [List.length_append, List.length_append, hL]; rfl)
  have e : (addP ⟨r, L, g⟩ (bare 3 .empty 0)) = ⟨r, L ++ [bare 3 .empty 0], g⟩ := rfl
  unfold choP adoptP
  dsimp only
  rw [e, h2]
  dsimp only
  rw [h3]
  dsimp only
  rw [List.append_assoc, List.append_assoc]
  show (L.length, PS.mk r' (adoptL (L ++ (bare 3 .empty 0 :: (X0 ++ X))) (L.length, false) ((n + 1) :: ks)) g') = _
  rw [hL, adoptL_right0 L _ n hL false ((n + 1) :: ks) (fun k hm => by
    rcases List.mem_cons.1 hm with rfl | hm
    · omega
    · have := hk k hm; omega)]
theorem setTimes_right (A X : List ND) (i x : Nat) : setTimes (A ++ X) (A.length + i) x = A ++ setTimes X i x := by
  unfold setTimes
  induction A with
  | nil => simp
  | cons a A ih => rw [List.length_cons, show A.length + 1 + i = (A.length + i) + 1 by omega, List.cons_append, List.modify_succ_cons, ih, List.cons_append]
theorem setTimes_right0 (A X : List ND) (n : Nat) (hn : A.length = n) (x : Nat) : setTimes (A ++ X) n x = A ++ setTimes X 0 x := by
  subst hn
  exact setTimes_right A X 0 x
theorem grpP_eq (t : List UInt8) (pc : PS → Nat × PS) (r : RS) (L : List ND) (g : Nat) (r1 : RS) (hr1 : needR t (if g = 9 then failR r 14 r.k else r) [40] = r1) : grpP t pc ⟨r, L, g⟩ = (L.length, (⟨timesR t (needR t (choP t pc ⟨r1, L ++ [bare 4 .empty ((g + 1 : Nat) : Int)], g + 1⟩).2.r [41]) [3],
      setTimes (adoptL (choP t pc ⟨r1, L ++ [bare 4 .empty ((g + 1 : Nat) : Int)], g + 1⟩).2.L (L.length, false) [(choP t pc ⟨r1, L ++ [bare 4 .empty ((g + 1 : Nat) : Int)], g + 1⟩).1]) L.length (timesV t (needR t (choP t pc ⟨r1, L ++ [bare 4 .empty ((g + 1 : Nat) : Int)], g + 1⟩).2.r [41]) [3]), (choP t pc ⟨r1, L ++ [bare 4 .empty ((g + 1 : Nat) : Int)], g + 1⟩).2.g⟩ : PS)) := by
  rw [← hr1]
  by_cases h9 : g = 9
  · subst h9; rfl
  · unfold grpP addP adoptP
    dsimp only
    rw [if_neg h9, if_neg h9]
    rfl
theorem pcP_frm (t : List UInt8) : ∀ f : Nat, Frm t f (pcP t f)
  | 0 => fun r n g h0 h1 => absurd h0 (by omega)
  | f + 1 => fun r n g h0 h1 => by
    have hG := pcP_good t f
    have hF := pcP_frm t f
    cases hp : Lib.hasPrefix (restR t r) [40] with
    | false =>
      refine ⟨setTimes [bare 1 (setV t r) 0] 0 (timesV t (setR t r) [1, 2, 3]), timesR t (setR t r) [1, 2, 3], g, fun L hL => ?_⟩
      show pieceP t (pcP t f) ⟨r, L, g⟩ = _
      unfold pieceP
      rw [if_neg (by rw [hp]; simp)]
      show (L.length, PS.mk _ (setTimes (L ++ [bare 1 (setV t r) 0]) L.length _) g) = _
      rw [hL, setTimes_right0 L _ n hL]
      rfl
    | true =>
      obtain ⟨r1, hr1⟩ : ∃ r1, needR t (if g = 9 then failR r 14 r.k else r) [40] = r1 := ⟨_, rfl⟩
      have hv : vl t r1 ≤ f := by
        have := (grp1_facts (t := t) (s := ⟨r, [], g⟩) h0).1
        have e : (grp1 t ⟨r, [], g⟩).r = r1 := by
          rw [← hr1]
          unfold grp1
          dsimp only
          split <;> rfl
        rw [e] at this
        simp only at this
        omega
      obtain ⟨X, r', g', h1⟩ := choP_frm hG hF r1 (n + 1) (g + 1) hv
      refine ⟨setTimes (adoptS n (bare 4 .empty ((g + 1 : Nat) : Int) :: X) (0, false) [n + 1]) 0 (timesV t (needR t r' [41]) [3]), timesR t (needR t r' [41]) [3], g', fun L hL => ?_⟩
      show pieceP t (pcP t f) ⟨r, L, g⟩ = _
      unfold pieceP
      rw [if_pos hp, grpP_eq t _ r L g r1 hr1, h1 (L ++ [bare 4 .empty ((g + 1 : Nat) : Int)]) (by rw [List.length_append, hL]; rfl)]
      dsimp only
      rw [List.append_assoc, hL]
      show (n, PS.mk _ (setTimes (adoptL (L ++ (bare 4 .empty ((g + 1 : Nat) : Int) :: X)) (n, false) [n + 1]) n _) g') = _
      rw [adoptL_right0 L _ n hL false [n + 1] (fun k hm => by rw [List.mem_singleton.1 hm]; omega), setTimes_right0 L _ n hL]
end Go.Proofs.YtdnbnigebejgjaaGreatDoor
namespace Go.Proofs.YtdnbnigebejgjaaGreatDoor
open Go.RowKit
/-- The next byte begins no piece, and ends no sequence. -/
def doomB (t : List UInt8) (r : RS) : Bool := match restR t r with
  | [] => false
  | c :: z => behindL.contains c && (!(c == 124) && (!(c == 41) && !(c == 36 && z.isEmpty)))
/-- The fault there is, or that must come. -/
def effE (t : List UInt8) (r : RS) : Nat × Nat := if r.e ≠ 0 then (r.e, r.a) else if doomB t r = true then (3, r.k) else (0, 0)
theorem eff_ok {t : List UInt8} {r : RS} (h : r.e = 0) (hd : doomB t r = false) : effE t r = (0, 0) := by
  unfold effE
  rw [if_neg (by rw [h]; simp), if_neg (by rw [hd]; simp)]
theorem eff_bad {t : List UInt8} {r : RS} (h : r.e ≠ 0) : effE t r = (r.e, r.a) := by
  unfold effE
  rw [if_pos h]
theorem eff_doom {t : List UInt8} {r : RS} (h : r.e = 0) (hd : doomB t r = true) : effE t r = (3, r.k) := by
  unfold effE
  rw [if_neg (by rw [h]; simp), if_pos hd]
theorem eff_zero {t : List UInt8} {r : RS} (h : (effE t r).1 = 0) : r.e = 0 ∧ doomB t r = false := by
  unfold effE at h
  split at h
  · rename_i h1; exact absurd h h1
  · rename_i h1
    have h1 : r.e = 0 := Decidable.not_not.1 h1
    split at h
    · cases h
    · rename_i h2
      exact ⟨h1, by simpa using h2⟩
/-- The reference's state M says what the parser's state Q says. -/
def SimP (t : List UInt8) (M Q : PS) : Prop := M.r.e = (effE t Q.r).1 ∧ ((effE t Q.r).1 ≠ 0 → M.r.a = (effE t Q.r).2) ∧ ((effE t Q.r).1 = 0 → M = Q)
theorem SimP.refl {t : List UInt8} {Q : PS} (h : Q.r.e = 0) (hd : doomB t Q.r = false) : SimP t Q Q := by
  unfold SimP
  rw [eff_ok h hd]
  exact ⟨h, fun h => absurd rfl h, fun _ => rfl⟩
theorem SimP.fault {t : List UInt8} {M Q : PS} (h : (M.r.e, M.r.a) = effE t Q.r) (h0 : M.r.e ≠ 0) : SimP t M Q := by
  unfold SimP
  rw [← h]
  exact ⟨rfl, fun _ => rfl, fun h => absurd h h0⟩
theorem SimP.ok {t : List UInt8} {M Q : PS} (h : SimP t M Q) (h0 : M.r.e = 0) : M = Q ∧ Q.r.e = 0 ∧ doomB t Q.r = false := by
  have h1 := h.1
  rw [h0] at h1
  have h2 := eff_zero h1.symm
  exact ⟨h.2.2 h1.symm, h2.1, h2.2⟩
theorem SimP.bad {t : List UInt8} {M Q : PS} (h : SimP t M Q) (h0 : M.r.e ≠ 0) : (M.r.e, M.r.a) = effE t Q.r := by
  have h1 := h.1
  have h2 := h.2.1 (by rw [← h1]; exact h0)
  rw [h1, h2]
/-- Only the reader's state matters for what a fault is. -/
theorem SimP.of_r {t : List UInt8} {M Q Q' : PS} (h : SimP t M Q) (h0 : M.r.e ≠ 0) (hr : Q'.r = Q.r) : SimP t M Q' := SimP.fault (by rw [hr]; exact h.bad h0) h0
theorem rest_zero {t : List UInt8} {s : RS} (h : 0 < (restR t s).length) : s.e = 0 := by
  unfold restR at h
  split at h
  · assumption
  · simp at h
theorem doom_no {t : List UInt8} {r : RS} (h : r.e ≠ 0) : doomB t r = false := by
  unfold doomB restR
  rw [if_neg h]
theorem take_hd {t : List UInt8} {r : RS} {c : UInt8} {z : List UInt8} (h : restR t r = c :: z) (b : UInt8) : takeB t r [b] = (b == c) := by
  unfold takeB Lib.hasPrefix
  rw [h]
  simp [List.isPrefixOf]
theorem take_nil {t : List UInt8} {r : RS} (h : restR t r = []) (b : UInt8) (x : List UInt8) : takeB t r (b :: x) = false := by
  unfold takeB Lib.hasPrefix
  rw [h]
  rfl
theorem doom_take {t : List UInt8} {r : RS} (h : doomB t r = true) : takeB t r [124] = false ∧ takeB t r [41] = false ∧ 0 < vl t r ∧ seesB t r behindL = false ∧ r.e = 0 := by
  unfold doomB at h
  cases hr : restR t r with
  | nil => rw [hr] at h; cases h
  | cons c z =>
    rw [hr] at h
    simp only [Bool.and_eq_true, Bool.not_eq_true', beq_eq_false_iff_ne] at h
    obtain ⟨h1, h2, h3, _⟩ := h
    refine ⟨?_, ?_, by unfold vl; rw [hr]; simp, ?_, rest_zero (by rw [hr]; simp)⟩
    · rw [take_hd hr]; simpa using fun e => h2 e.symm
    · rw [take_hd hr]; simpa using fun e => h3 e.symm
    · unfold seesB
      rw [hr]
      show (!(behindL.contains c)) = false
      rw [h1]; rfl
theorem take_bad {t : List UInt8} {r : RS} (h : r.e ≠ 0) (b : UInt8) (x : List UInt8) : takeB t r (b :: x) = false := take_nil (by unfold restR; rw [if_neg h]) b x
/-- The last child, or -1. -/
def lastI (l : List Nat) : Int := match l.getLast? with
  | none => -1
  | some k => (k : Int)
theorem lastI_snoc (l : List Nat) (x : Nat) : lastI (l ++ [x]) = (x : Int) := by
  unfold lastI
  rw [List.getLast?_concat]
theorem plc2_last (n0 : Nat) : ∀ l : List Nat, (lastI l < 0 → plc2 (n0, false) l = (n0, false)) ∧ (¬ lastI l < 0 → ∃ k : Nat, lastI l = (k : Int) ∧ k ∈ l ∧ plc2 (n0, false) l = (k, true)) := by
  intro l
  rcases List.eq_nil_or_concat l with rfl | ⟨l', x, rfl⟩
  · exact ⟨fun _ => rfl, fun h => absurd (by decide : lastI [] < 0) h⟩
  · rw [List.concat_eq_append, lastI_snoc, plc2_snoc]
    exact ⟨fun h => absurd h (by omega), fun _ => ⟨x, rfl, by simp, rfl⟩⟩
theorem seqLoop_bad {t : List UInt8} {pc : PS → Nat × PS} (n : Nat) (s : PS) (l : List Nat) (he : s.r.e ≠ 0) : seqLoop t pc n s l = (l, s) := by
  cases n with
  | zero => rfl
  | succ n =>
    unfold seqLoop
    have : seesB t s.r behindL = false := by unfold seesB restR; rw [if_neg he]; rfl
    rw [if_neg (by rw [this]; decide)]
/-- The state of the reference in a sequence whose node is n0: R is what the parser comes to. -/
def SqI (t : List UInt8) (f : Nat) (pc : PS → Nat × PS) (n0 : Nat) (R : List Nat × PS) (S : PS) (lst : Int) (M : PS) : Prop :=
  (M.r.e = 0 ∧ ∃ m sp l, seqLoop t pc m sp l = R ∧ vl t sp.r ≤ m ∧ vl t sp.r ≤ f ∧ M = adoptP sp n0 l ∧ lst = lastI l ∧ (∀ k ∈ l, k < sp.L.length) ∧ n0 < sp.L.length ∧ JLE t 0 S sp) ∨
  (M.r.e ≠ 0 ∧ (M.r.e, M.r.a) = effE t R.2.r ∧ JLE t 0 S M)
theorem SqI.start (t : List UInt8) {f : Nat} (pc : PS → Nat × PS) {n0 : Nat} {S : PS} (h0 : S.r.e = 0) (hf : vl t S.r ≤ f) (hn : n0 < S.L.length) : SqI t f pc n0 (seqLoop t pc t.length S []) S (-1) S :=
  .inl ⟨h0, t.length, S, [], rfl, Nat.le_trans (restR_len t _) (by omega), hf, rfl, rfl, by simp, hn, JLE.refl t S⟩
theorem SqI.done {t : List UInt8} {f : Nat} {pc : PS → Nat × PS} {n0 : Nat} {R : List Nat × PS} {S M : PS} {lst : Int} (h : SqI t f pc n0 R S lst M) (hs : M.r.e = 0 → seesB t M.r behindL = false ∧ doomB t M.r = false) : SimP t M (adoptP R.2 n0 R.1) ∧ JLE t 0 S M := by
  rcases h with ⟨he, m, sp, l, hR, hm, hf, rfl, _, hl, hn, hj⟩ | ⟨he, hE, hj⟩
  · obtain ⟨h1, h2⟩ := hs he
    have h1' : seesB t sp.r behindL = false := h1
    have e : R = (l, sp) := by
      rw [← hR]
      cases m with
      | zero => rfl
      | succ m => unfold seqLoop; rw [if_neg (by rw [h1']; simp)]
    rw [e]
    exact ⟨SimP.refl he h2, (hj.trans (JLE.adopt t sp n0 l)).mono (Nat.le_refl _)⟩
  · exact ⟨SimP.fault hE he, hj⟩
theorem SqI.open {t : List UInt8} {f : Nat} {pc : PS → Nat × PS} {n0 : Nat} {R : List Nat × PS} {S M : PS} {lst : Int} (h : SqI t f pc n0 R S lst M) (he : M.r.e = 0) : vl t M.r ≤ f ∧ JLE t 0 S M ∧ n0 < M.L.length ∧ (lst < 0 ∨ ∃ k : Nat, lst = (k : Int) ∧ k < M.L.length) := by
  rcases h with ⟨_, m, sp, l, hR, hm, hf, rfl, rfl, hl, hn, hj⟩ | ⟨h, _⟩
  · refine ⟨hf, (hj.trans (JLE.adopt t sp n0 l)).mono (Nat.le_refl _), by show n0 < (adoptL _ _ _).length; rw [adoptL_length]; exact hn, ?_⟩
    by_cases hlt : lastI l < 0
    · exact .inl hlt
    · obtain ⟨k, h1, h2, _⟩ := (plc2_last n0 l).2 hlt
      exact .inr ⟨k, h1, by show k < (adoptL _ _ _).length; rw [adoptL_length]; exact hl k h2⟩
  · exact absurd he h
/-- A piece fails, or what must fail is found. -/
theorem SqI.doom {t : List UInt8} {f : Nat} {pc : PS → Nat × PS} {n0 : Nat} {R : List Nat × PS} {S M M' : PS} {lst : Int} (h : SqI t f pc n0 R S lst M) (he : M.r.e = 0) (hd : doomB t M.r = true) (h' : M'.r.e = 3 ∧ M'.r.a = M.r.k) (hj : JLE t 0 M M') : SqI t f pc n0 R S lst M' := by
  obtain ⟨_, hj0, _⟩ := h.open he
  rcases h with ⟨_, m, sp, l, hR, hm, hf, rfl, _, hl, hn, _⟩ | ⟨h, _⟩
  · have h1 : seesB t sp.r behindL = false := (doom_take hd).2.2.2.1
    have e : R = (l, sp) := by
      rw [← hR]
      cases m with
      | zero => rfl
      | succ m => unfold seqLoop; rw [if_neg (by rw [h1]; simp)]
    refine .inr ⟨by rw [h'.1]; simp, ?_, hj0.trans hj⟩
    rw [e, h'.1, h'.2]
    exact (eff_doom he hd).symm
  · exact absurd he h
theorem SqI.fault {t : List UInt8} {f : Nat} {pc : PS → Nat × PS} {n0 : Nat} {R : List Nat × PS} {S M M' : PS} {lst : Int} (hF : Frm t f pc) (h : SqI t f pc n0 R S lst M) (he : M.r.e = 0) (hs : seesB t M.r behindL = true) (hq : (pc M).2.r.e ≠ 0) (h' : M'.r.e = (pc M).2.r.e ∧ M'.r.a = (pc M).2.r.a) (hj : JLE t 0 M M') : SqI t f pc n0 R S lst M' := by
  obtain ⟨_, hj0, _⟩ := h.open he
  rcases h with ⟨_, m, sp, l, hR, hm, hf, rfl, _, hl, hn, _⟩ | ⟨h, _⟩
  · have hs' : seesB t sp.r behindL = true := hs
    obtain ⟨X, r', g', h1⟩ := hF sp.r sp.L.length sp.g (vl_sees hs') hf
    have e1 : pc sp = (sp.L.length, ⟨r', sp.L ++ X, g'⟩) := h1 sp.L rfl
    have e2 : pc (adoptP sp n0 l) = (sp.L.length, ⟨r', adoptL sp.L (n0, false) l ++ X, g'⟩) := h1 _ (adoptL_length _ _ _)
    rw [e2] at hq h'
    obtain ⟨m', rfl⟩ : ∃ m', m = m' + 1 := ⟨m - 1, by have := vl_sees hs'; omega⟩
    have e : R = (l ++ [sp.L.length], ⟨r', sp.L ++ X, g'⟩) := by
      rw [← hR]
      unfold seqLoop
      rw [if_pos hs', e1]
      exact seqLoop_bad _ _ _ hq
    refine .inr ⟨by rw [h'.1]; exact hq, ?_, hj0.trans hj⟩
    rw [e, h'.1, h'.2]
    exact (eff_bad hq).symm
  · exact absurd he h
/-- A piece is read, and linked. -/
theorem SqI.piece {t : List UInt8} {f : Nat} {pc : PS → Nat × PS} {n0 : Nat} {R : List Nat × PS} {S M : PS} {lst : Int} (hG : PG t f pc) (hF : Frm t f pc) (h : SqI t f pc n0 R S lst M) (he : M.r.e = 0) (hs : seesB t M.r behindL = true) (hq : (pc M).2.r.e = 0) :
    SqI t f pc n0 R S ((pc M).1 : Int) { (pc M).2 with L := putL (pc M).2.L (if lst < 0 then (n0, false) else (lst.toNat, true)) (pc M).1 } := by
  rcases h with ⟨_, m, sp, l, hR, hm, hf, rfl, rfl, hl, hn, hj⟩ | ⟨h, _⟩
  · have hs' : seesB t sp.r behindL = true := hs
    have hv := vl_sees hs'
    obtain ⟨X, r', g', h1⟩ := hF sp.r sp.L.length sp.g hv hf
    have e1 : pc sp = (sp.L.length, ⟨r', sp.L ++ X, g'⟩) := h1 sp.L rfl
    have e2 : pc (adoptP sp n0 l) = (sp.L.length, ⟨r', adoptL sp.L (n0, false) l ++ X, g'⟩) := h1 _ (adoptL_length _ _ _)
    have k1 := hG.le sp hv hf
    have k2 := hG.lt sp hv hf
    have k3 := hG.kid sp hv hf
    rw [e1] at k1 k2 k3
    rw [e2] at hq ⊢
    obtain ⟨m', rfl⟩ : ∃ m', m = m' + 1 := ⟨m - 1, by omega⟩
    dsimp only at k2 k3 hq ⊢
    have ep : (if lastI l < 0 then (n0, false) else ((lastI l).toNat, true)) = plc2 (n0, false) l := by
      by_cases hlt : lastI l < 0
      · rw [if_pos hlt, (plc2_last n0 l).1 hlt]
      · obtain ⟨k, h5, _, h6⟩ := (plc2_last n0 l).2 hlt
        rw [if_neg hlt, h6, h5]; rfl
    refine .inl ⟨hq, m', ⟨r', sp.L ++ X, g'⟩, l ++ [sp.L.length], ?_, by show vl t r' ≤ m'; omega, by show vl t r' ≤ f; omega, ?_, (lastI_snoc l _).symm, fun k hk => ?_, by show n0 < (sp.L ++ X).length; rw [List.length_append]; omega, hj.trans k1⟩
    · rw [← hR]
      conv => rhs; unfold seqLoop
      rw [if_pos hs', e1]
    · unfold adoptP
      dsimp only
      rw [adoptL_snoc, adoptL_left X l sp.L (n0, false) hn hl, ep]
    · rcases List.mem_append.1 hk with hk | hk
      · show k < (sp.L ++ X).length
        rw [List.length_append]
        have := hl k hk
        omega
      · rw [List.mem_singleton.1 hk]; exact k3
  · exact absurd he h
end Go.Proofs.YtdnbnigebejgjaaGreatDoor
namespace Go.Proofs.YtdnbnigebejgjaaGreatDoor
open Go.RowKit
/-- The state of the reference in a choice whose node is n0, before a sequence: R is what the parser comes to. -/
def ChI (t : List UInt8) (f : Nat) (pc : PS → Nat × PS) (n0 : Nat) (R : List Nat × PS) (S : PS) (lst : Int) (M : PS) : Prop :=
  M.r.e = 0 ∧ ∃ m sp l, choLoop t pc m (seqP t pc sp).2 (l ++ [(seqP t pc sp).1]) = R ∧ vl t (seqP t pc sp).2.r ≤ m ∧ vl t sp.r ≤ f ∧ M = adoptP sp n0 l ∧ lst = lastI l ∧ (∀ k ∈ l, k < sp.L.length) ∧ n0 < sp.L.length ∧ JLE t 1 S sp
theorem ChI.start (t : List UInt8) {f : Nat} (pc : PS → Nat × PS) {S : PS} (h0 : S.r.e = 0) (hf : vl t S.r ≤ f) :
    ChI t f pc S.L.length (choLoop t pc t.length (seqP t pc (addP S (bare 3 .empty 0))).2 [(seqP t pc (addP S (bare 3 .empty 0))).1]) S (-1) (addP S (bare 3 .empty 0)) :=
  ⟨h0, t.length, addP S (bare 3 .empty 0), [], rfl, Nat.le_trans (restR_len t _) (by omega), hf, rfl, rfl, by simp, by simp [addP], JLE.add t S _⟩
theorem ChI.open {t : List UInt8} {f : Nat} {pc : PS → Nat × PS} {n0 : Nat} {R : List Nat × PS} {S M : PS} {lst : Int} (h : ChI t f pc n0 R S lst M) : M.r.e = 0 ∧ vl t M.r ≤ f ∧ JLE t 1 S M ∧ n0 < M.L.length ∧ (lst < 0 ∨ ∃ k : Nat, lst = (k : Int) ∧ k < M.L.length) := by
  obtain ⟨he, m, sp, l, hR, hm, hf, rfl, rfl, hl, hn, hj⟩ := h
  refine ⟨he, hf, (hj.trans (JLE.adopt t sp n0 l)).mono (Nat.le_refl _), by show n0 < (adoptL _ _ _).length; rw [adoptL_length]; exact hn, ?_⟩
  by_cases hlt : lastI l < 0
  · exact .inl hlt
  · obtain ⟨k, h1, h2, _⟩ := (plc2_last n0 l).2 hlt
    exact .inr ⟨k, h1, by show k < (adoptL _ _ _).length; rw [adoptL_length]; exact hl k h2⟩
theorem ChI.step {t : List UInt8} {f : Nat} {pc : PS → Nat × PS} {n0 : Nat} {R : List Nat × PS} {S M M2 M3 : PS} {lst : Int} {x : Nat} (hG : PG t f pc) (hF : Frm t f pc) (h : ChI t f pc n0 R S lst M) (hx : M.L.length = x)
    (h2 : M2 = { M with L := putL (M.L ++ [bare 2 .empty 0]) (if lst < 0 then (n0, false) else (lst.toNat, true)) x }) (h3 : SimP t M3 (adoptP (seqLoop t pc t.length M2 []).2 x (seqLoop t pc t.length M2 []).1)) (hj : JLE t 0 M2 M3) :
    JLE t 2 S M3 ∧ ((M3.r.e ≠ 0 ∨ takeB t M3.r [124] = false) → SimP t M3 (adoptP R.2 n0 R.1)) ∧ (M3.r.e = 0 → takeB t M3.r [124] = true → ChI t f pc n0 R S (x : Int) { M3 with r := takeR t M3.r [124] }) := by
  obtain ⟨he, m, sp, l, hR, hm, hf, rfl, rfl, hl, hn, hjs⟩ := h
  have hxs : sp.L.length = x := by rw [← hx]; exact (adoptL_length _ _ _).symm
  have ep : (if lastI l < 0 then (n0, false) else ((lastI l).toNat, true)) = plc2 (n0, false) l := by
    by_cases hlt : lastI l < 0
    · rw [if_pos hlt, (plc2_last n0 l).1 hlt]
    · obtain ⟨k, h5, _, h6⟩ := (plc2_last n0 l).2 hlt
      rw [if_neg hlt, h6, h5]; rfl
  obtain ⟨P1, hP1⟩ : ∃ P1, adoptL sp.L (n0, false) (l ++ [x]) = P1 := ⟨_, rfl⟩
  have hP1l : P1.length = x := by rw [← hP1, adoptL_length, hxs]
  have hM2 : M2 = ⟨sp.r, P1 ++ [bare 2 .empty 0], sp.g⟩ := by
    rw [h2, ep]
    show PS.mk sp.r (putL (adoptL sp.L (n0, false) l ++ [bare 2 .empty 0]) (plc2 (n0, false) l) x) sp.g = _
    rw [← hP1, adoptL_snoc, putL_left _ _ _ (by rw [adoptL_length]; exact plc2_lt l _ hn hl)]
  obtain ⟨X, r', g', ks, hv, hk, h1⟩ := seqLoop_frm hG hF t.length sp.r (x + 1) sp.g [] hf
  have q1 := h1 (P1 ++ [bare 2 .empty 0]) (by rw [List.length_append, hP1l]; rfl)
  have q2 := h1 (sp.L ++ [bare 2 .empty 0]) (by rw [List.length_append, hxs]; rfl)
  rw [List.nil_append] at q1 q2
  have hk0 : ∀ k ∈ ks, x ≤ k := fun k hm => Nat.le_trans (Nat.le_succ x) (hk k hm)
  obtain ⟨Z, hZ⟩ : ∃ Z, adoptS x (bare 2 .empty 0 :: X) (0, false) ks = Z := ⟨_, rfl⟩
  have hsq : seqP t pc sp = (x, ⟨r', sp.L ++ Z, g'⟩) := by
    have e : addP sp (bare 2 .empty 0) = ⟨sp.r, sp.L ++ [bare 2 .empty 0], sp.g⟩ := rfl
    unfold seqP adoptP
    rw [e, q2]
    dsimp only
    rw [List.append_assoc]
    show (sp.L.length, PS.mk r' (adoptL (sp.L ++ (bare 2 .empty 0 :: X)) (sp.L.length, false) ks) g') = _
    rw [hxs, adoptL_right0 sp.L _ x hxs false ks hk0, hZ]
  have hA : adoptP (seqLoop t pc t.length M2 []).2 x (seqLoop t pc t.length M2 []).1 = adoptP (seqP t pc sp).2 n0 (l ++ [x]) := by
    rw [hM2, q1, hsq]
    unfold adoptP
    dsimp only
    rw [List.append_assoc, adoptL_left_snoc Z l x sp.L (n0, false) hn hl, hP1]
    show PS.mk r' (adoptL (P1 ++ (bare 2 .empty 0 :: X)) (x, false) ks) g' = _
    rw [adoptL_right0 P1 _ x hP1l false ks hk0, hZ]
  rw [hA] at h3
  have hse := seqP_le hG sp hf
  rw [hsq] at hR hm h3 hse
  dsimp only at hR hm h3 hse
  have hJ3 : JLE t 2 S M3 := by
    have a : JLE t 1 sp M2 := by
      rw [hM2]
      refine ⟨Nat.le_refl _, ?_, Nat.le_refl _, ?_⟩
      · simp only [pot, List.length_append, hP1l, List.length_singleton]; omega
      · simp only [List.length_append, hP1l, List.length_singleton]; omega
    exact (hjs.trans a).trans hj
  refine ⟨hJ3, fun hs => ?_, fun h0 h12 => ?_⟩
  · have e : R = (l ++ [x], ⟨r', sp.L ++ Z, g'⟩) := by
      have hno : takeB t r' [124] = false := by
        by_cases he3 : M3.r.e = 0
        · rcases hs with hs | hs
          · exact absurd he3 hs
          · rw [(h3.ok he3).1] at hs
            exact hs
        · have hb := h3.bad he3
          by_cases hr : r'.e = 0
          · cases hd : doomB t r' with
            | true => exact (doom_take hd).1
            | false =>
              rw [show (adoptP ⟨r', sp.L ++ Z, g'⟩ n0 (l ++ [x])).r = r' from rfl, eff_ok hr hd] at hb
              injection hb with hb _
              exact absurd hb he3
          · exact take_bad hr _ _
      rw [← hR]
      cases m with
      | zero => rfl
      | succ m => unfold choLoop; rw [if_neg (by rw [hno]; simp)]
    rw [e]
    exact h3
  · obtain ⟨hm3, hr0, _⟩ := h3.ok h0
    rw [hm3] at h12
    have h12' : takeB t r' [124] = true := h12
    have hvt := vl_take h12'
    simp only [List.length_singleton] at hvt
    obtain ⟨m', rfl⟩ : ∃ m', m = m' + 1 := ⟨m - 1, by omega⟩
    have hR' : choLoop t pc m' (seqP t pc ⟨takeR t r' [124], sp.L ++ Z, g'⟩).2 ((l ++ [x]) ++ [(seqP t pc ⟨takeR t r' [124], sp.L ++ Z, g'⟩).1]) = R := by
      rw [← hR]
      conv => rhs; unfold choLoop
      rw [if_pos h12']
    have hfv : vl t (takeR t r' [124]) ≤ f := by omega
    refine ⟨?_, m', ⟨takeR t r' [124], sp.L ++ Z, g'⟩, l ++ [x], hR', ?_, hfv, ?_, (lastI_snoc l x).symm, fun k hk => ?_, ?_, ?_⟩
    · rw [hm3]
      show (takeR t r' [124]).e = 0
      unfold takeR
      rw [if_pos h12']
      exact hr0
    · have := (seqP_le hG ⟨takeR t r' [124], sp.L ++ Z, g'⟩ hfv).v0
      simp only at this
      omega
    · rw [hm3]; rfl
    · show k < (sp.L ++ Z).length
      rw [List.length_append]
      rcases List.mem_append.1 hk with hk | hk
      · have := hl k hk; omega
      · have h5 := seqP_kid hG sp hf
        rw [hsq] at h5
        rw [List.mem_singleton.1 hk]
        rw [List.length_append] at h5
        exact h5
    · show n0 < (sp.L ++ Z).length
      rw [List.length_append]; omega
    · have h5 := hjs.trans hse
      have a0 := h5.v0
      have a1 := h5.p0
      have a2 := h5.g0
      have a3 := h5.l0
      simp only [pot, gp] at a0 a1 a2 a3
      refine ⟨by show vl t (takeR t r' [124]) ≤ _; omega, ?_, ?_, a3⟩
      · simp only [pot]; omega
      · simp only [gp]; omega
theorem fail_bad {s : RS} (h : s.e ≠ 0) (e a : Nat) : failR s e a = s := by unfold failR; rw [if_neg h]
theorem need_bad {t : List UInt8} {s : RS} (h : s.e ≠ 0) (b : UInt8) (x : List UInt8) : needR t s (b :: x) = s := by
  unfold needR
  rw [if_neg (by rw [take_bad h]; simp), fail_bad h]
theorem sign_cons : ∀ x : Nat, x = 1 ∨ x = 2 ∨ x = 3 → ∃ b, signL x = [b] := fun x h => by
  rcases h with rfl | rfl | rfl <;> exact ⟨_, rfl⟩
theorem times_bad {t : List UInt8} {s : RS} (h : s.e ≠ 0) : timesR t s [3] = s ∧ timesR t s [1, 2, 3] = s := by
  have a1 : takeB t s (signL 1) = false := take_bad h _ _
  have a2 : takeB t s (signL 2) = false := take_bad h _ _
  have a3 : takeB t s (signL 3) = false := take_bad h _ _
  simp [timesR, a1, a2, a3]
theorem seq_bad {t : List UInt8} {pc : PS → Nat × PS} {s : PS} (h : s.r.e ≠ 0) : (seqP t pc s).2.r = s.r := by
  unfold seqP
  rw [seqLoop_bad _ _ _ (show (addP s (bare 2 .empty 0)).r.e ≠ 0 from h)]
  rfl
theorem choLoop_bad {t : List UInt8} {pc : PS → Nat × PS} (n : Nat) (s : PS) (l : List Nat) (he : s.r.e ≠ 0) : choLoop t pc n s l = (l, s) := by
  cases n with
  | zero => rfl
  | succ n => unfold choLoop; rw [if_neg (by rw [take_bad he]; simp)]
theorem cho_bad {t : List UInt8} {pc : PS → Nat × PS} {s : PS} (h : s.r.e ≠ 0) : (choP t pc s).2.r = s.r := by
  have h1 : (seqP t pc (addP s (bare 3 .empty 0))).2.r = s.r := seq_bad (s := addP s (bare 3 .empty 0)) h
  unfold choP
  dsimp only
  rw [choLoop_bad _ _ _ (by rw [h1]; exact h)]
  exact h1
theorem grp_nine {t : List UInt8} {pc : PS → Nat × PS} {S : PS} (h0 : S.r.e = 0) (h9 : S.g = 9) : (grpP t pc S).2.r.e = 14 ∧ (grpP t pc S).2.r.a = S.r.k := by
  obtain ⟨r, L, g⟩ := S
  dsimp only at h0 h9 ⊢
  have hb : (failR r 14 r.k).e = 14 ∧ (failR r 14 r.k).a = r.k := by unfold failR; rw [if_pos h0]; exact ⟨rfl, rfl⟩
  have hr1 : needR t (if g = 9 then failR r 14 r.k else r) [40] = failR r 14 r.k := by
    rw [if_pos h9, need_bad (by rw [hb.1]; simp)]
  have hc : (choP t pc ⟨failR r 14 r.k, L ++ [bare 4 .empty ((g + 1 : Nat) : Int)], g + 1⟩).2.r = failR r 14 r.k := cho_bad (by show (failR r 14 r.k).e ≠ 0; rw [hb.1]; simp)
  rw [grpP_eq t pc r L g _ hr1]
  dsimp only
  rw [hc, need_bad (by rw [hb.1]; simp), (times_bad (by rw [hb.1]; simp)).1]
  exact hb
/-- A group behind its choice. -/
theorem grp_sim {t : List UInt8} {pc : PS → Nat × PS} {S M : PS} (h0 : S.r.e = 0) (h9 : S.g ≠ 9) (h40 : takeB t S.r [40] = true) (hM : SimP t M (choP t pc ⟨takeR t S.r [40], S.L ++ [bare 4 .empty ((S.g + 1 : Nat) : Int)], S.g + 1⟩).2) (x : Nat) (hx : (choP t pc ⟨takeR t S.r [40], S.L ++ [bare 4 .empty ((S.g + 1 : Nat) : Int)], S.g + 1⟩).1 = x) :
    (M.r.e ≠ 0 → M.r.e = (grpP t pc S).2.r.e ∧ M.r.a = (grpP t pc S).2.r.a) ∧
    (M.r.e = 0 → takeB t M.r [41] = false → (grpP t pc S).2.r.e = 3 ∧ (grpP t pc S).2.r.a = M.r.k) ∧
    (M.r.e = 0 → takeB t M.r [41] = true → (grpP t pc S) = (S.L.length, ⟨timesR t (takeR t M.r [41]) [3], setTimes (putL M.L (S.L.length, false) x) S.L.length (timesV t (takeR t M.r [41]) [3]), M.g⟩)) := by
  obtain ⟨r, L, g⟩ := S
  dsimp only at h0 h9 h40 hM hx ⊢
  have hr1 : needR t (if g = 9 then failR r 14 r.k else r) [40] = takeR t r [40] := by
    rw [if_neg h9]
    unfold needR
    rw [if_pos h40]
  rw [grpP_eq t pc r L g _ hr1]
  obtain ⟨Q, hQ⟩ : ∃ Q, choP t pc ⟨takeR t r [40], L ++ [bare 4 .empty ((g + 1 : Nat) : Int)], g + 1⟩ = Q := ⟨_, rfl⟩
  rw [hQ] at hM hx ⊢
  dsimp only
  refine ⟨fun he => ?_, fun he h1 => ?_, fun he h1 => ?_⟩
  · have hb := hM.bad he
    by_cases hq : Q.2.r.e = 0
    · cases hd : doomB t Q.2.r with
      | false =>
        rw [eff_ok hq hd] at hb
        injection hb with hb _
        exact absurd hb he
      | true =>
        rw [eff_doom hq hd] at hb
        have hn : needR t Q.2.r [41] = ⟨Q.2.r.k, 3, Q.2.r.k⟩ := by
          unfold needR
          rw [if_neg (by rw [(doom_take hd).2.1]; simp)]
          unfold failR
          rw [if_pos hq]
        rw [hn, (times_bad (by simp)).1]
        injection hb with hb1 hb2
        exact ⟨hb1, hb2⟩
    · rw [eff_bad hq] at hb
      rw [need_bad hq, (times_bad hq).1]
      injection hb with hb1 hb2
      exact ⟨hb1, hb2⟩
  · obtain ⟨rfl, hq, _⟩ := hM.ok he
    have hn : needR t Q.2.r [41] = ⟨Q.2.r.k, 3, Q.2.r.k⟩ := by
      unfold needR
      rw [if_neg (by rw [h1]; simp)]
      unfold failR
      rw [if_pos hq]
    rw [hn, (times_bad (by simp)).1]
    exact ⟨rfl, rfl⟩
  · obtain ⟨rfl, hq, _⟩ := hM.ok he
    have hn : needR t Q.2.r [41] = takeR t Q.2.r [41] := by
      unfold needR
      rw [if_pos h1]
    rw [hn, ← hx]
    rfl
end Go.Proofs.YtdnbnigebejgjaaGreatDoor
