/-
  What feeding gives for lines that were joined, and for a text that fits its limit.
-/
import Derived.Test.YtfagjhadfonhdaaLPure
namespace Go.Proofs.Ytfagjhadfonhdaa
open Go.RowKit
theorem feed_text (n : Int) : ∀ (u t c : List UInt8), hasN u 10 = false → ((t.length + u.length : Nat) : Int) ≤ n → feedL n t (u ++ c) = feedL n (t ++ u) c
  | [], t, c, _, _ => by simp
  | x :: r, t, c, h, hl => by
    have h1 : x.toNat ≠ 10 ∧ hasN r 10 = false := by simpa [hasN] using h
    rw [List.cons_append, feed_cons, if_neg h1.1, if_neg (by simp at hl; omega)]
    rw [feed_text n r (t ++ [x]) c h1.2 (by simp at hl ⊢; omega)]
    simp
theorem line_cr (u : List UInt8) : lineR (u ++ [13]) = ⟨u, goodB u⟩ := by
  unfold lineR
  rw [List.getLast?_concat, if_pos rfl]
  simp
/-- The text of lines. -/
def joinL : List Ln → List UInt8
  | [] => []
  | x :: r => x.tx ++ [13, 10] ++ joinL r
theorem goJ_all : ∀ (L : List Ln) (o : List UInt8), (∀ x ∈ L, okLn x = true) → goJ o L = (o ++ joinL L, 0)
  | [], o, _ => by simp [goJ, joinL]
  | x :: r, o, h => by
    rw [show goJ o (x :: r) = if okLn x = true then goJ (o ++ x.tx ++ [13, 10]) r else ([], 3) from rfl]
    rw [if_pos (h x (List.mem_cons_self ..)), goJ_all r _ (fun y hy => h y (List.mem_cons_of_mem _ hy))]
    simp [joinL]
theorem good_no {t : List UInt8} (h : goodB t = true) : hasN t 10 = false := by
  unfold goodB at h
  simp at h
  exact h.2
theorem feed_joined (n : Int) (last : List UInt8) (h1 : hasN last 10 = false) (h2 : (last.length : Int) ≤ n) : ∀ (L : List Ln), (∀ x ∈ L, okLn x = true ∧ (x.tx.length : Int) + 1 ≤ n) → feedL n [] (joinL L ++ last) = (⟨n, last, false⟩, L)
  | [], _ => by
    have := feed_text n last [] [] h1 (by simpa using h2)
    rw [List.append_nil] at this
    show feedL n [] ([] ++ last) = _
    rw [List.nil_append, this]
    rfl
  | x :: r, h => by
    obtain ⟨hx, hl⟩ := h x (List.mem_cons_self ..)
    have ih := feed_joined n last h1 h2 r (fun y hy => h y (List.mem_cons_of_mem _ hy))
    obtain ⟨t, g⟩ := x
    have hg : g = true ∧ goodB t = true := by
      unfold okLn at hx
      simpa using hx
    obtain ⟨rfl, hgt⟩ := hg
    dsimp only at hl
    have e : joinL (⟨t, true⟩ :: r) ++ last = (t ++ [13]) ++ (10 :: (joinL r ++ last)) := by simp [joinL]
    rw [e, feed_text n (t ++ [13]) [] _ (by rw [hasN_append, good_no hgt]; rfl) (by simp; omega), List.nil_append, feed_cons, if_pos (show (10 : UInt8).toNat = 10 from rfl), ih, line_cr, hgt]
/-- The bytes of the longest line, from a state on. -/
def mxL : Nat → Nat → List UInt8 → Nat
  | m, _, [] => m
  | m, a, c :: r => if c.toNat = 10 then mxL m 0 r else mxL (max m (a + 1)) (a + 1) r
theorem mxL_at {m a : Nat} {l : List UInt8} {k : Nat} (h : k < l.length) : mxL m a (l.drop k) = if (l[k]).toNat = 10 then mxL m 0 (l.drop (k + 1)) else mxL (max m (a + 1)) (a + 1) (l.drop (k + 1)) := by
  rw [List.drop_eq_getElem_cons h]; rfl
theorem mxL_ge : ∀ (c : List UInt8) (m a : Nat), m ≤ mxL m a c
  | [], m, _ => Nat.le_refl m
  | c :: r, m, a => by
    unfold mxL
    split
    · exact mxL_ge r m 0
    · exact Nat.le_trans (Nat.le_max_left _ _) (mxL_ge r _ _)
theorem mxL_le : ∀ (c : List UInt8) (m a : Nat), mxL m a c ≤ max m (a + c.length)
  | [], m, _ => Nat.le_max_left _ _
  | c :: r, m, a => by
    unfold mxL
    split
    · have := mxL_le r m 0
      simp only [List.length_cons]
      omega
    · have := mxL_le r (max m (a + 1)) (a + 1)
      simp only [List.length_cons]
      omega
theorem feed_long (N : Nat) : ∀ (c t : List UInt8) (m : Nat), m ≤ N → t.length ≤ N → (feedL (N : Int) t c).1.lg = decide (N < mxL m t.length c)
  | [], t, m, h, _ => by
    rw [feed_nil]
    exact (decide_eq_false (by unfold mxL; omega)).symm
  | c :: r, t, m, h, ht => by
    rw [feed_cons]
    rw [show mxL m t.length (c :: r) = if c.toNat = 10 then mxL m 0 r else mxL (max m (t.length + 1)) (t.length + 1) r from rfl]
    by_cases hc : c.toNat = 10
    · rw [if_pos hc, if_pos hc]
      exact feed_long N r [] m h (Nat.zero_le _)
    · rw [if_neg hc, if_neg hc]
      by_cases h3 : (t.length : Int) = (N : Int)
      · rw [if_pos h3]
        have := mxL_ge r (max m (t.length + 1)) (t.length + 1)
        exact (decide_eq_true (by omega)).symm
      · rw [if_neg h3]
        have := feed_long N r (t ++ [c]) (max m (t.length + 1)) (by omega) (by simp; omega)
        rw [this]
        simp
theorem feed_first (n : Int) : ∀ (c t : List UInt8) (x : Ln) (xs : List Ln), (t.length : Int) ≤ n → (feedL n t c).2 = x :: xs → ∃ u r, c = u ++ 10 :: r ∧ ((t.length + u.length : Nat) : Int) ≤ n ∧ x = lineR (t ++ u) ∧ feedL n [] r = ((feedL n t c).1, xs)
  | [], t, x, xs, _, h => by rw [feed_nil] at h; cases h
  | c :: r, t, x, xs, ht, h => by
    rw [feed_cons] at h ⊢
    by_cases hc : c.toNat = 10
    · rw [if_pos hc] at h ⊢
      dsimp only at h ⊢
      injection h with h1 h2
      refine ⟨[], r, ?_, by simpa using ht, by rw [List.append_nil]; exact h1.symm, ?_⟩
      · have : c = 10 := UInt8.toNat_inj.1 hc
        rw [this]
        rfl
      · rw [← h2]
    · rw [if_neg hc] at h ⊢
      by_cases h3 : (t.length : Int) = n
      · rw [if_pos h3] at h
        cases h
      · rw [if_neg h3] at h ⊢
        obtain ⟨u, r', e1, e2, e3, e4⟩ := feed_first n r (t ++ [c]) x xs (by simp; omega) h
        refine ⟨c :: u, r', by rw [e1]; rfl, by simp at e2 ⊢; omega, by rw [e3]; simp, e4⟩
theorem feed_last (n : Int) : ∀ (c t : List UInt8), (feedL n t c).2 = [] → (feedL n t c).1.lg = false → (feedL n t c).1.txt = t ++ c
  | [], t, _, _ => by rw [feed_nil]; simp
  | c :: r, t, h, hg => by
    rw [feed_cons] at h hg ⊢
    by_cases hc : c.toNat = 10
    · rw [if_pos hc] at h
      cases h
    · rw [if_neg hc] at h hg ⊢
      by_cases h3 : (t.length : Int) = n
      · rw [if_pos h3] at hg
        cases hg
      · rw [if_neg h3] at h hg ⊢
        rw [feed_last n r (t ++ [c]) h hg]
        simp
/-- The end of the line that stands in front of a line feed. -/
def endL (u : List UInt8) : List UInt8 := if u.getLast? = some 13 then [13, 10] else [10]
theorem line_end (u : List UInt8) : (lineR u).tx ++ endL u = u ++ [10] := by
  unfold lineR endL
  by_cases h : u.getLast? = some 13
  · rw [if_pos h, if_pos h]
    dsimp only
    have hne : u ≠ [] := by intro e; rw [e] at h; cases h
    have h2 := List.dropLast_concat_getLast hne
    have h3 : u.getLast hne = 13 := by
      rw [List.getLast?_eq_some_getLast hne] at h
      exact Option.some.inj h
    rw [h3, List.dropLast_eq_take] at h2
    rw [show ([13, 10] : List UInt8) = [13] ++ [10] from rfl, ← List.append_assoc, h2]
  · rw [if_neg h, if_neg h]
theorem line_short (u : List UInt8) : (lineR u).tx.length ≤ u.length := by
  unfold lineR
  split
  · dsimp only
    rw [List.length_take]
    omega
  · exact Nat.le_refl _
theorem line_bad {u : List UInt8} (h : u.getLast? ≠ some 13) : (lineR u).gd = false := by
  unfold lineR
  rw [if_neg h]
/-- The byte behind the text of a line. -/
theorem behind_line (u r : List UInt8) : ∃ y, (u ++ 10 :: r)[(lineR u).tx.length]? = some y ∧ (y.toNat = 13 ↔ u.getLast? = some 13) := by
  by_cases h : u.getLast? = some 13
  · have e := line_end u
    unfold endL at e
    rw [if_pos h] at e
    refine ⟨13, ?_, ⟨fun _ => h, fun _ => rfl⟩⟩
    rw [show u ++ 10 :: r = (u ++ [10]) ++ r by simp, ← e]
    simp
  · have e : (lineR u).tx = u := by unfold lineR; rw [if_neg h]
    refine ⟨10, by rw [e]; simp, ⟨fun h2 => absurd h2 (by decide), fun h2 => absurd h2 h⟩⟩
end Go.Proofs.Ytfagjhadfonhdaa
