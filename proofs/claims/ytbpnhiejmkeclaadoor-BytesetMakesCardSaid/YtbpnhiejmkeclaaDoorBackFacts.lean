/-
  The text of a set is read back as that set, so that different sets have different texts. No condition.
-/
import Derived.Test.YtbpnhiejmkeclaaDoorText
import Derived.Test.YtbpnhiejmkeclaaDoorParse
namespace Go.Proofs.YtbpnhiejmkeclaaDoor
open Go.RowKit
abbrev u8s (l : List Nat) : List UInt8 := l.map UInt8.ofNat
theorem has_empty (b : Nat) : WSet.empty.has b = false := by
  unfold WSet.has WSet.empty
  have : (WSet.mk 0 0 0 0).w (b / 64) = 0#64 := by
    unfold WSet.w
    split <;> rfl
  rw [this]; simp
theorem has_or (s t : WSet) (b : Nat) : (s.or t).has b = (s.has b || t.has b) := by
  have h : (s.or t).w (b / 64) = s.w (b / 64) ||| t.w (b / 64) := by
    unfold WSet.or WSet.w
    split <;> rfl
  unfold WSet.has
  rw [h, BitVec.getLsbD_or]
theorem w_set (s : WSet) (i j : Nat) (hi : i < 4) (hj : j < 4) (x : BitVec 64) : (s.set i x).w j = if j = i then x else s.w j := by
  match i, hi, j, hj with
  | 0, _, 0, _ | 0, _, 1, _ | 0, _, 2, _ | 0, _, 3, _ => rfl
  | 1, _, 0, _ | 1, _, 1, _ | 1, _, 2, _ | 1, _, 3, _ => rfl
  | 2, _, 0, _ | 2, _, 1, _ | 2, _, 2, _ | 2, _, 3, _ => rfl
  | 3, _, 0, _ | 3, _, 1, _ | 3, _, 2, _ | 3, _, 3, _ => rfl
theorem bit_one (n k : Nat) (hn : n < 64) (hk : k < 64) : (1#64 <<< n).getLsbD k = decide (k = n) := by
  rw [BitVec.getLsbD_shiftLeft]
  by_cases h : k = n
  · subst h; simp [hk]
  · by_cases h2 : k < n
    · simp [h2, h]
    · have : k - n ≠ 0 := by omega
      simp [h, h2, hk, this]
theorem has_add (s : WSet) (n b : Nat) (hn : n < 256) (hb : b < 256) : (s.add n).has b = (s.has b || decide (b = n)) := by
  unfold WSet.has WSet.add
  rw [w_set _ _ _ (by omega) (by omega)]
  by_cases h : b / 64 = n / 64
  · rw [if_pos h, BitVec.getLsbD_or, bit_one _ _ (by omega) (by omega), h]
    congr 1
    rw [decide_eq_decide]
    omega
  · rw [if_neg h]
    have : b ≠ n := by rintro rfl; exact h rfl
    simp [this]
theorem has_spanTo (lo : Nat) : ∀ (k b : Nat), lo + k ≤ 256 → b < 256 → (spanTo lo k).has b = decide (lo ≤ b ∧ b < lo + k)
  | 0, b, _, _ => by
    show WSet.empty.has b = _
    rw [has_empty]
    symm; rw [decide_eq_false_iff_not]; omega
  | k + 1, b, h, hb => by
    show ((spanTo lo k).add (lo + k)).has b = _
    rw [has_add _ _ _ (by omega) hb, has_spanTo lo k b (by omega) hb, ← Bool.decide_or]
    rw [decide_eq_decide]
    omega
theorem ext_has {s t : WSet} (h : ∀ b, b < 256 → s.has b = t.has b) : s = t := by
  have key : ∀ j, j < 4 → s.w j = t.w j := by
    intro j hj
    refine BitVec.eq_of_getLsbD_eq fun i hi => ?_
    have := h (64 * j + i) (by omega)
    unfold WSet.has at this
    rw [show (64 * j + i) / 64 = j by omega, show (64 * j + i) % 64 = i by omega] at this
    exact this
  obtain ⟨a, b, c, d⟩ := s
  obtain ⟨e, f, g, k⟩ := t
  have h0 : a = e := key 0 (by omega)
  have h1 : b = f := key 1 (by omega)
  have h2 : c = g := key 2 (by omega)
  have h3 : d = k := key 3 (by omega)
  rw [h0, h1, h2, h3]
theorem readB_plain (b : UInt8) (r : List UInt8) (h : plainB b.toNat = true) : readB (b :: r) = some (b.toNat, r) := by
  rw [readB.eq_def]
  exact if_pos h
theorem readB_hex (h1 h2 : UInt8) (r : List UInt8) (h : ((hexV h1.toNat).2 && (hexV h2.toNat).2) = true) : readB (92 :: 120 :: h1 :: h2 :: r) = some (16 * (hexV h1.toNat).1 + (hexV h2.toNat).1, r) := by
  have hp : ¬ plainB (92 : UInt8).toNat = true := by decide +kernel
  rw [readB.eq_def]
  refine (if_neg hp).trans ?_
  exact if_pos h
theorem hexV_hexD : ∀ i, i < 16 → hexV (UInt8.ofNat (hexD i)).toNat = (i, true) := by decide +kernel
theorem readB_written (n : Nat) (hn : n < 256) (r : List UInt8) : readB (u8s (written n) ++ r) = some (n, r) := by
  unfold written
  split
  · rename_i h
    have e : (UInt8.ofNat n).toNat = n := by simp; omega
    show readB (UInt8.ofNat n :: r) = _
    rw [readB_plain _ _ (by rw [e]; exact h), e]
  · show readB (92 :: 120 :: UInt8.ofNat (hexD (n / 16)) :: UInt8.ofNat (hexD (n % 16)) :: r) = _
    rw [readB_hex _ _ _ (by rw [hexV_hexD _ (by omega), hexV_hexD _ (by omega)]; rfl), hexV_hexD _ (by omega), hexV_hexD _ (by omega)]
    show some (16 * (n / 16) + n % 16, r) = _
    rw [Nat.div_add_mod]
theorem cutDash_ne (b : UInt8) (r : List UInt8) (h : b ≠ 45) : cutDash (b :: r) = none := by
  unfold cutDash
  split
  · rename_i h'; injection h' with h1 h2; exact (h h1).elim
  · rfl
theorem plain45 : plainB 45 = false := by decide +kernel
theorem cutDash_written (n : Nat) (hn : n < 256) (r : List UInt8) : cutDash (u8s (written n) ++ r) = none := by
  unfold written
  split
  · rename_i h
    refine cutDash_ne _ _ fun e => ?_
    have e2 : (UInt8.ofNat n).toNat = 45 := by rw [e]; rfl
    have e3 : n = 45 := by simp at e2; omega
    rw [e3, plain45] at h
    cases h
  · exact cutDash_ne _ _ (by decide)
/-- Does every run lie among the bytes? -/
def RunsOk (rs : List (Nat × Nat)) : Prop := ∀ p ∈ rs, p.1 ≤ p.2 ∧ p.2 < 256
theorem runT_head (p : Nat × Nat) : ∃ l, runT p = written p.1 ++ l := ⟨_, by unfold runT; rw [List.append_assoc]⟩
theorem cutDash_runs (rs : List (Nat × Nat)) (h : RunsOk rs) : cutDash (u8s (rs.flatMap runT)) = none := by
  cases rs with
  | nil => rfl
  | cons p rs =>
    obtain ⟨l, hl⟩ := runT_head p
    have hp := h p List.mem_cons_self
    rw [List.flatMap_cons, hl]
    simp only [u8s, List.map_append, List.append_assoc]
    exact cutDash_written _ (by omega) _
def orRuns : List (Nat × Nat) → WSet → WSet
  | [], s => s
  | p :: rs, s => orRuns rs (s.or (spanTo p.1 (p.2 + 1 - p.1)))
theorem span_two (s : WSet) (a : Nat) (h : a + 1 < 256) : (s.or (spanTo a 1)).or (spanTo (a + 1) 1) = s.or (spanTo a 2) := by
  refine ext_has fun b hb => ?_
  rw [has_or, has_or, has_or, has_spanTo _ _ _ (by omega) hb, has_spanTo _ _ _ (by omega) hb, has_spanTo _ _ _ (by omega) hb, Bool.or_assoc, ← Bool.decide_or]
  congr 1
  rw [decide_eq_decide]
  omega
theorem readR_one (n : Nat) (hn : n < 256) (r : List UInt8) (h : cutDash r = none) : readR (u8s (written n) ++ r) = .ok (n, n, r) := by
  unfold readR
  rw [readB_written n hn]
  simp only [h]
theorem readR_two (lo hi : Nat) (h : lo < hi) (hn : hi < 256) (r : List UInt8) : readR (u8s (written lo) ++ (45 :: (u8s (written hi) ++ r))) = .ok (lo, hi, r) := by
  unfold readR
  rw [readB_written lo (by omega)]
  show (match readB (u8s (written hi) ++ r) with
      | none => Except.error 3
      | some (hi, r'') => if hi ≤ lo then .error 8 else .ok (lo, hi, r'')) = _
  rw [readB_written hi hn]
  exact if_neg (by omega)
theorem parseL_runs : ∀ (rs : List (Nat × Nat)) (s : WSet), RunsOk rs → parseL (u8s (rs.flatMap runT)).length (u8s (rs.flatMap runT)) s = .ok (orRuns rs s)
  | [], s, _ => rfl
  | p :: rs, s, h => by
    obtain ⟨lo, hi⟩ := p
    have hp := h (lo, hi) List.mem_cons_self
    have hr : RunsOk rs := fun q hq => h q (List.mem_cons_of_mem _ hq)
    have ih := fun s => parseL_runs rs s hr
    have hd := cutDash_runs rs hr
    dsimp only at hp
    rw [List.flatMap_cons]
    have hm : u8s (runT (lo, hi) ++ rs.flatMap runT) = u8s (runT (lo, hi)) ++ u8s (rs.flatMap runT) := List.map_append
    rw [hm]
    generalize u8s (rs.flatMap runT) = r at ih hd
    have e : orRuns ((lo, hi) :: rs) s = orRuns rs (s.or (spanTo lo (hi + 1 - lo))) := rfl
    rw [e]
    by_cases h1 : lo = hi
    · subst h1
      have ht : u8s (runT (lo, lo)) = u8s (written lo) := by simp [runT]
      rw [ht, parseL_step _ _ _ _ _ (readR_one lo (by omega) r hd), ih]
    · by_cases h2 : hi = lo + 1
      · subst h2
        have ht : u8s (runT (lo, lo + 1)) ++ r = u8s (written lo) ++ (u8s (written (lo + 1)) ++ r) := by simp [runT]
        rw [ht, parseL_step _ _ _ _ _ (readR_one lo (by omega) _ (cutDash_written _ (by omega) _)), parseL_step _ _ _ _ _ (readR_one (lo + 1) (by omega) r hd), ih]
        rw [show lo + 1 - lo = 1 by omega, show lo + 1 + 1 - (lo + 1) = 1 by omega, show lo + 1 + 1 - lo = 2 by omega, span_two _ _ (by omega)]
      · have h3 : 1 < hi - lo := by omega
        have h4 : lo < hi := by omega
        have ht : u8s (runT (lo, hi)) ++ r = u8s (written lo) ++ (45 :: (u8s (written hi) ++ r)) := by
          simp only [runT, h3, h4, if_true, u8s, List.map_append, List.append_assoc, List.map_cons, List.cons_append, List.nil_append]
          rfl
        rw [ht, parseL_step _ _ _ _ _ (readR_two lo hi h4 (by omega) r), ih]
theorem has_orRuns : ∀ (rs : List (Nat × Nat)) (s : WSet) (b : Nat), RunsOk rs → b < 256 → (orRuns rs s).has b = (s.has b || rs.any fun p => decide (p.1 ≤ b ∧ b ≤ p.2))
  | [], s, b, _, _ => by simp [orRuns]
  | p :: rs, s, b, h, hb => by
    have hp := h p List.mem_cons_self
    show (orRuns rs (s.or (spanTo p.1 (p.2 + 1 - p.1)))).has b = _
    rw [has_orRuns rs _ b (fun q hq => h q (List.mem_cons_of_mem _ hq)) hb, has_or, has_spanTo _ _ _ (by omega) hb, List.any_cons, Bool.or_assoc]
    congr 2
    rw [decide_eq_decide]
    omega
theorem runsF_cons {s : WSet} {k f x : Nat} (e : nextOf s f = (x, 0)) : runsF s (k + 1) f = (x, pastOf s x - 1) :: runsF s k (pastOf s x) := by
  rw [runsF, e]
  rfl
theorem runsF_nil {s : WSet} {k f : Nat} (e : nextOf s f = (0, 6)) : runsF s (k + 1) f = [] := by
  rw [runsF, e]
  rfl
theorem runsF_any (s : WSet) : ∀ (k f b : Nat), 257 ≤ k + f → b < 256 → ((runsF s k f).any fun p => decide (p.1 ≤ b ∧ b ≤ p.2)) = (decide (f ≤ b) && s.has b)
  | 0, f, b, h, hb => by
    have : ¬ f ≤ b := by omega
    simp [runsF, this]
  | k + 1, f, b, h, hb => by
    rcases nextOf_cases s f with ⟨x, e, h1, h2, h3, h4⟩ | ⟨e, h4⟩
    · obtain ⟨p1, p2, p3, p4⟩ := pastOf_spec s x h2 h3
      rw [runsF_cons e, List.any_cons, runsF_any s k _ b (by omega) hb]
      dsimp only
      by_cases q1 : f ≤ b
      · by_cases q2 : b < x
        · have r1 : ¬ (x ≤ b ∧ b ≤ pastOf s x - 1) := by omega
          have r2 : ¬ pastOf s x ≤ b := by omega
          rw [h4 b q1 q2]
          simp [r1, r2]
        · by_cases q3 : b < pastOf s x
          · have r1 : x ≤ b ∧ b ≤ pastOf s x - 1 := by omega
            rw [p3 b (by omega) q3]
            simp [r1, q1]
          · have r1 : ¬ (x ≤ b ∧ b ≤ pastOf s x - 1) := by omega
            have r2 : pastOf s x ≤ b := by omega
            simp [r1, r2, q1]
      · have r1 : ¬ (x ≤ b ∧ b ≤ pastOf s x - 1) := by omega
        have r2 : ¬ pastOf s x ≤ b := by omega
        simp [r1, r2, q1]
    · rw [runsF_nil e]
      by_cases q1 : f ≤ b
      · rw [h4 b q1 hb]; simp
      · simp [q1]
theorem runsF_ok (s : WSet) : ∀ (k f : Nat), RunsOk (runsF s k f)
  | 0, f => fun p hp => by cases hp
  | k + 1, f => by
    rcases nextOf_cases s f with ⟨x, e, h1, h2, h3, h4⟩ | ⟨e, h4⟩
    · obtain ⟨p1, p2, p3, p4⟩ := pastOf_spec s x h2 h3
      rw [runsF_cons e]
      intro p hp
      rcases List.mem_cons.1 hp with rfl | hp
      · exact ⟨by dsimp only; omega, by dsimp only; omega⟩
      · exact runsF_ok s k _ p hp
    · rw [runsF_nil e]
      intro p hp; cases hp
theorem runT_short (p : Nat × Nat) (h : p.1 ≤ p.2) : (runT p).length ≤ 4 * (p.2 + 1 - p.1) := by
  have h1 := (written_length p.1).2
  have h2 := (written_length p.2).2
  unfold runT
  rw [List.length_append, List.length_append]
  split
  · rw [if_pos (by omega)]
    simp only [List.length_cons, List.length_nil]
    omega
  · split
    · simp only [List.length_nil]; omega
    · simp only [List.length_nil]; omega
theorem runsF_length (s : WSet) : ∀ (k f : Nat), ((runsF s k f).flatMap runT).length ≤ 4 * (256 - f)
  | 0, f => Nat.zero_le _
  | k + 1, f => by
    rcases nextOf_cases s f with ⟨x, e, h1, h2, h3, h4⟩ | ⟨e, h4⟩
    · obtain ⟨p1, p2, p3, p4⟩ := pastOf_spec s x h2 h3
      rw [runsF_cons e, List.flatMap_cons, List.length_append]
      have a1 := runT_short (x, pastOf s x - 1) (by dsimp only; omega)
      have a2 := runsF_length s k (pastOf s x)
      dsimp only at a1
      omega
    · rw [runsF_nil e]; exact Nat.zero_le _
theorem textOf_length (s : WSet) : (textOf s).length ≤ 1024 := runsF_length s 257 0
theorem parseOf_text (s : WSet) : parseOf (u8s (textOf s)) = .ok s := by
  have hl : ¬ 1024 < (u8s (textOf s)).length := by
    have := textOf_length s
    rw [List.length_map]; omega
  rw [parseOf, if_neg hl]
  refine (parseL_runs (runsOf s) .empty (runsF_ok s _ _)).trans (congrArg Except.ok ?_)
  refine ext_has fun b hb => ?_
  rw [has_orRuns (runsOf s) _ _ (runsF_ok s _ _) hb, has_empty, Bool.false_or]
  exact (runsF_any s 257 0 b (by omega) hb).trans (by simp)
theorem text_inj (s t : WSet) (h : (⟨(u8s (textOf s)).toArray⟩ : ByteArray) = ⟨(u8s (textOf t)).toArray⟩) : s = t := by
  injection h with h
  have h : u8s (textOf s) = u8s (textOf t) := by simpa using h
  have h1 := parseOf_text s
  rw [h, parseOf_text t] at h1
  injection h1 with h1
  exact h1.symm
end Go.Proofs.YtbpnhiejmkeclaaDoor
