/-
  What targets say, purely: raw paths and queries, what is read, why not, canonical targets. No condition but those that stand in each line.
  What is read of a target, in parts; the canonical target of what was read. No condition but those that stand in each line.
-/
import Derived.Test.YtjinedeelkdgiaaDoorHP
import Derived.Test.YtjinedeelkdgiaaDoorHDPure
import Derived.Test.YtjinedeelkdgiaaDoorHGDec
import Derived.Test.YtjinedeelkdgiaaDoorHGEnc
namespace Go.Proofs.YtjinedeelkdgiaaDoor
open Go.RowKit
/-- What stands before the first byte c, and behind it. -/
def cutB (c : UInt8) : List UInt8 → List UInt8 × List UInt8
  | [] => ([], [])
  | d :: r => if d = c then ([], r) else (d :: (cutB c r).1, (cutB c r).2)
def rawL (l : List UInt8) : List UInt8 := (cutB 63 l).1
def qL (l : List UInt8) : List UInt8 := (cutB 63 l).2
def charB (l : List UInt8) : Bool := l.all fun x => charS.has x.toNat
def tgtB (l : List UInt8) : Bool := pathB l && charB l
def splR (s : List UInt8) : Nat ⊕ (List UInt8 × List UInt8) := if 1024 < s.length then .inl 4 else if tgtB s then .inr (rawL s, qL s) else .inl 3
/-- What comes of the path and the query that were found, for a limit. -/
def endR (p q : List UInt8) (n : Int) : (Nat × Nat) ⊕ (List UInt8 × List UInt8) := if n < p.length ∨ 128 < q.length then .inl (4, 414) else .inr (p, q)
def clnR (t q : List UInt8) (n : Int) : (Nat × Nat) ⊕ (List UInt8 × List UInt8) := match cleanR t with
  | .inl _ => .inl (18, 400)
  | .inr p => endR p q n
def midR (raw q : List UInt8) (n : Int) : (Nat × Nat) ⊕ (List UInt8 × List UInt8) := match decL raw 0 with
  | .error _ => .inl (3, 400)
  | .ok t => if safeB t then clnR t q n else .inl (3, 400)
def rdR (s : List UInt8) (n : Int) : (Nat × Nat) ⊕ (List UInt8 × List UInt8) := if n < 1 ∨ 128 < n then .inl (2, 0) else if 1024 < s.length then .inl (4, 414) else if tgtB s then midR (rawL s) (qL s) n else .inl (3, 400)
def canL (p q : List UInt8) : List UInt8 := encL stay17 p ++ (if q == [] then [] else 63 :: q)
def txtR (p q : List UInt8) : Nat ⊕ List UInt8 := if normB p then (if (qryR q).2 ≠ 0 then .inl (qryR q).2 else if (qryR q).1 then .inr (canL p q) else .inl 3) else .inl 18
def canR (s : List UInt8) : Nat ⊕ List UInt8 := match rdR s 128 with
  | .inl e => .inl e.1
  | .inr r => .inr (canL r.1 r.2)
def sameR (s t : List UInt8) : Bool × Nat := match rdR s 128 with
  | .inl e => (false, e.1)
  | .inr r => match rdR t 128 with
    | .inl e => (false, e.1)
    | .inr x => (r.1 == x.1 && r.2 == x.2, 0)
/-- How what is read is returned. -/
def rdP : (Nat × Nat) ⊕ (List UInt8 × List UInt8) → List UInt8 × List UInt8 × Nat × Nat
  | .inl e => ([], [], e.1, e.2)
  | .inr r => (r.1, r.2, 0, 200)
def rd4W (x : List UInt8 × List UInt8 × Nat × Nat) : Value := .tuple #[.string ⟨x.1.toArray⟩, .string ⟨x.2.1.toArray⟩, .int .i64 (x.2.2.1 : Int), .int .i64 (x.2.2.2 : Int)]
def parseW (x : List UInt8 × List UInt8 × Nat × Nat) : Value := .tuple #[.string ⟨x.1.toArray⟩, .string ⟨x.2.1.toArray⟩, .int .i64 (x.2.2.2 : Int)]
def whyW (x : List UInt8 × List UInt8 × Nat × Nat) : Value := .tuple #[.int .i64 (x.2.2.1 : Int), .int .i64 (x.2.2.2 : Int)]
def splP : Nat ⊕ (List UInt8 × List UInt8) → List UInt8 × List UInt8 × Nat
  | .inl e => ([], [], e)
  | .inr r => (r.1, r.2, 0)
def splW (x : List UInt8 × List UInt8 × Nat) : Value := .tuple #[.string ⟨x.1.toArray⟩, .string ⟨x.2.1.toArray⟩, .int .i64 (x.2.2 : Int)]
def boolW (x : Bool × Nat) : Value := .tuple #[.bool x.1, .int .i64 (x.2 : Int)]
/-- A byte 0, 10 or 13. -/
def endsB (l : List UInt8) : Bool := l.any fun x => (x.toNat == 0 || x.toNat == 10) || x.toNat == 13
theorem brk_has : ∀ n : Fin 256, brkS.not.has n.val = !((n.val == 0 || n.val == 10) || n.val == 13) := by decide +kernel
theorem safe_ends (l : List UInt8) : safeB l = !endsB l := by
  unfold safeB endsB
  rw [List.not_any_eq_all_not]
  congr 1
  funext x
  exact brk_has ⟨x.toNat, UInt8.toNat_lt x⟩
/-- The bytes that no query has. -/
def noqB (l : List UInt8) : Bool := l.any fun x => (decide (x.toNat < 33) || decide (126 < x.toNat)) || x.toNat == 35
theorem qry_has : ∀ n : Fin 256, qryS.has n.val = !((decide (n.val < 33) || decide (126 < n.val)) || n.val == 35) := by decide +kernel
theorem qry_noq (l : List UInt8) : qryB l = !noqB l := by
  unfold qryB noqB
  rw [List.not_any_eq_all_not]
  congr 1
  funext x
  exact qry_has ⟨x.toNat, UInt8.toNat_lt x⟩
theorem char_qry : charS = qryS := by decide +kernel
theorem cut_parts : ∀ (l : List UInt8), (63 ∈ l → l = (cutB 63 l).1 ++ 63 :: (cutB 63 l).2) ∧ (63 ∉ l → (cutB 63 l).1 = l ∧ (cutB 63 l).2 = []) ∧ (∀ x ∈ (cutB 63 l).1, x ∈ l ∧ x ≠ 63) ∧ (∀ x ∈ (cutB 63 l).2, x ∈ l)
  | [] => ⟨by simp, by simp [cutB], by simp [cutB], by simp [cutB]⟩
  | d :: r => by
    obtain ⟨h1, h2, h3, h4⟩ := cut_parts r
    by_cases hd : d = 63
    · subst hd
      have e : cutB 63 (63 :: r) = ([], r) := by simp [cutB]
      rw [e]
      refine ⟨fun _ => rfl, fun h => absurd (List.mem_cons_self) h, by simp, fun x hx => List.mem_cons_of_mem _ hx⟩
    · have e : cutB 63 (d :: r) = (d :: (cutB 63 r).1, (cutB 63 r).2) := by rw [cutB, if_neg hd]
      rw [e]
      refine ⟨fun h => ?_, fun h => ?_, fun x hx => ?_, fun x hx => List.mem_cons_of_mem _ (h4 x hx)⟩
      · have hm : 63 ∈ r := by
          rcases List.mem_cons.1 h with h | h
          · exact absurd h.symm hd
          · exact h
        show d :: r = d :: ((cutB 63 r).1 ++ 63 :: (cutB 63 r).2)
        rw [← h1 hm]
      · have hm : 63 ∉ r := fun c => h (List.mem_cons_of_mem _ c)
        exact ⟨by show d :: (cutB 63 r).1 = d :: r; rw [(h2 hm).1], (h2 hm).2⟩
      · rcases List.mem_cons.1 hx with h | h
        · subst h; exact ⟨List.mem_cons_self, hd⟩
        · exact ⟨List.mem_cons_of_mem _ (h3 x h).1, (h3 x h).2⟩
theorem cutb_at : ∀ (l : List UInt8) (k : Nat) (hk : k < l.length), (∀ j (hj : j < l.length), j < k → l[j] ≠ 63) → l[k] = 63 → cutB 63 l = (l.take k, l.drop (k + 1))
  | [], k, hk, _, _ => by simp at hk
  | d :: r, 0, hk, _, h => by
    have hd : d = 63 := h
    simp [cutB, hd]
  | d :: r, k + 1, hk, hall, h => by
    have hd : d ≠ 63 := hall 0 (by simp) (by omega)
    have ih := cutb_at r k (by simpa using hk) (fun j hj hjk => by
      have := hall (j + 1) (by simpa using hj) (by omega)
      simpa using this) (by simpa using h)
    rw [cutB, if_neg hd, ih]
    rfl
theorem cut_none {l : List UInt8} (h : ∀ j (hj : j < l.length), l[j] ≠ 63) : cutB 63 l = (l, []) := by
  have hm : 63 ∉ l := fun c => by
    obtain ⟨j, hj, e⟩ := List.getElem_of_mem c
    exact h j hj e
  obtain ⟨a, b⟩ := (cut_parts l).2.1 hm
  exact Prod.ext a b
theorem cut_len (l : List UInt8) : (rawL l).length ≤ l.length ∧ (qL l).length ≤ l.length := by
  unfold rawL qL
  by_cases h : 63 ∈ l
  · have e := congrArg List.length ((cut_parts l).1 h)
    simp at e
    omega
  · obtain ⟨a, b⟩ := (cut_parts l).2.1 h
    rw [a, b]
    simp
/-- A path begins with a slash, also raw. -/
theorem raw_path {l : List UInt8} (h : pathB l = true) : pathB (rawL l) = true := by
  cases l with
  | nil => simp [pathB] at h
  | cons c r =>
    have hc : c.toNat = 47 := by simpa [pathB] using h
    have hne : c ≠ 63 := fun e => by rw [e] at hc; simp at hc
    unfold rawL
    rw [cutB, if_neg hne]
    simpa [pathB] using hc
/-- Decoding keeps the first slash. -/
theorem dec_path {l t : List UInt8} (h : pathB l = true) (hd : decL l 0 = .ok t) : pathB t = true := by
  cases l with
  | nil => simp [pathB] at h
  | cons c r =>
    have hc : c.toNat = 47 := by simpa [pathB] using h
    have hne : c ≠ 37 := fun e => by rw [e] at hc; simp at hc
    rw [decL_plain 0 hne] at hd
    cases hr : decL r (0 + 1) with
    | error j => rw [hr] at hd; simp [Except.map] at hd
    | ok u =>
      rw [hr] at hd
      have e : c :: u = t := by simpa [Except.map] using hd
      rw [← e]
      simpa [pathB] using hc
theorem clean_err {t : List UInt8} {e : Nat} (h : pathB t = true) (hc : cleanR t = .inl e) : e = 18 := by
  unfold cleanR at hc
  rw [if_pos h] at hc
  unfold endC at hc
  split at hc
  · exact (Sum.inl.inj hc).symm
  · cases hc
theorem dec_len : ∀ (n : Nat) (l : List UInt8) (i : Nat) (t : List UInt8), l.length ≤ n → decL l i = .ok t → t.length ≤ l.length
  | 0, l, i, t, hl, h => by
    obtain rfl : l = [] := List.eq_nil_of_length_eq_zero (by omega)
    rw [decL_nil] at h
    cases h; simp
  | n + 1, [], i, t, hl, h => by
    rw [decL_nil] at h
    cases h; simp
  | n + 1, c :: r, i, t, hl, h => by
    have hr : r.length ≤ n := by simpa using hl
    by_cases he : escB (c :: r) = true
    · rw [decL_esc i he] at h
      cases hd : decL ((c :: r).drop 3) (i + 3) with
      | error j => rw [hd] at h; simp [Except.map] at h
      | ok u =>
        rw [hd] at h
        have e : escV (c :: r) :: u = t := by simpa [Except.map] using h
        have hl3 : ((c :: r).drop 3).length ≤ n := by rw [List.length_drop]; simp; omega
        have := dec_len n _ _ _ hl3 hd
        rw [← e]
        rw [List.length_drop] at this
        have h3 : 3 ≤ (c :: r).length := by
          rcases Nat.lt_or_ge 2 (c :: r).length with h' | h'
          · exact h'
          · have := escB_short (l := c :: r) (k := 0) (by omega)
            rw [List.drop_zero, he] at this
            cases this
        simp only [List.length_cons] at this h3 ⊢
        omega
    · by_cases hc : c = 37
      · subst hc
        rw [decL_bad i (by simpa using he)] at h
        cases h
      · rw [decL_plain i hc] at h
        cases hd : decL r (i + 1) with
        | error j => rw [hd] at h; simp [Except.map] at h
        | ok u =>
          rw [hd] at h
          have e : c :: u = t := by simpa [Except.map] using h
          have := dec_len n r _ _ hr hd
          rw [← e]
          simpa using this
end Go.Proofs.YtjinedeelkdgiaaDoor
namespace Go.Proofs.YtjinedeelkdgiaaDoor
open Go.RowKit
theorem rd_good {s : List UInt8} {n : Int} {r : List UInt8 × List UInt8} (h : rdR s n = .inr r) : 1 ≤ n ∧ n ≤ 128 ∧ s.length ≤ 1024 ∧ tgtB s = true ∧ (∃ t, decL (rawL s) 0 = .ok t ∧ safeB t = true ∧ cleanR t = .inr r.1) ∧ r.2 = qL s ∧ (r.1.length : Int) ≤ n ∧ r.2.length ≤ 128 := by
  unfold rdR at h
  by_cases h1 : n < 1 ∨ 128 < n
  · rw [if_pos h1] at h; cases h
  rw [if_neg h1] at h
  by_cases h2 : 1024 < s.length
  · rw [if_pos h2] at h; cases h
  rw [if_neg h2] at h
  cases ht : tgtB s
  · rw [ht] at h; simp at h
  rw [ht, if_pos rfl] at h
  unfold midR at h
  cases hd : decL (rawL s) 0 with
  | error j => rw [hd] at h; cases h
  | ok t =>
    rw [hd] at h
    dsimp only at h
    cases hs : safeB t
    · rw [hs] at h; simp at h
    rw [hs, if_pos rfl] at h
    unfold clnR at h
    cases hc : cleanR t with
    | inl e => rw [hc] at h; cases h
    | inr p =>
      rw [hc] at h
      dsimp only at h
      unfold endR at h
      by_cases h3 : n < p.length ∨ 128 < (qL s).length
      · rw [if_pos h3] at h; cases h
      rw [if_neg h3] at h
      cases h
      exact ⟨by omega, by omega, by omega, rfl, ⟨t, rfl, hs, hc⟩, rfl, by show (p.length : Int) ≤ n; omega, by show (qL s).length ≤ 128; omega⟩
theorem rd_of {s t p : List UInt8} {n : Int} (h1 : 1 ≤ n) (h2 : n ≤ 128) (h3 : s.length ≤ 1024) (h4 : tgtB s = true) (hd : decL (rawL s) 0 = .ok t) (hs : safeB t = true) (hc : cleanR t = .inr p) (h5 : (p.length : Int) ≤ n) (h6 : (qL s).length ≤ 128) : rdR s n = .inr (p, qL s) := by
  unfold rdR
  rw [if_neg (by omega), if_neg (by omega), if_pos h4]
  unfold midR
  rw [hd]
  dsimp only
  rw [if_pos hs]
  unfold clnR
  rw [hc]
  dsimp only
  unfold endR
  rw [if_neg (by omega)]
theorem q_chars {s : List UInt8} (h : tgtB s = true) : qryB (qL s) = true := by
  unfold tgtB charB at h
  have h := (Bool.and_eq_true_iff.1 h).2
  rw [List.all_eq_true] at h
  unfold qryB
  rw [List.all_eq_true, ← char_qry]
  intro x hx
  exact h x ((cut_parts s).2.2.2 x hx)
theorem qry_good {q : List UInt8} (h : qryB q = true) (hl : q.length ≤ 128) : qryR q = (true, 0) := by
  unfold qryR
  rw [if_neg (by omega), h]
theorem read_text {s : List UInt8} {n : Int} {r : List UInt8 × List UInt8} (h : rdR s n = .inr r) : normB r.1 = true ∧ qryR r.2 = (true, 0) := by
  obtain ⟨h1, h2, h3, h4, ⟨t, hd, hs, hc⟩, h5, h6, h7⟩ := rd_good h
  refine ⟨?_, qry_good (by rw [h5]; exact q_chars h4) h7⟩
  rw [(clean_again hc).2]
  exact decide_eq_true (by omega)
theorem txt_good {p q : List UInt8} (h1 : normB p = true) (h2 : qryR q = (true, 0)) : txtR p q = .inr (canL p q) := by
  unfold txtR
  rw [if_pos h1, h2]
  rfl
theorem can_len {p q : List UInt8} : (canL p q).length ≤ 3 * p.length + q.length + 1 := by
  unfold canL
  have := encL_length stay17 p
  rw [List.length_append]
  split <;> simp <;> omega
end Go.Proofs.YtjinedeelkdgiaaDoor
