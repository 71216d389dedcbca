/-
  Feeding in parts, splitters that feeding leaves, and the kit's At.
-/
import Derived.Test.YtfagjhadfonhdaaLShape
import Derived.Test.YtfagjhadfonhdaaKMod
namespace Go.Proofs.Ytfagjhadfonhdaa
open Go.RowKit
theorem feed_nil (n : Int) (t : List UInt8) : feedL n t [] = (⟨n, t, false⟩, []) := rfl
theorem feed_cons (n : Int) (t : List UInt8) (c : UInt8) (r : List UInt8) : feedL n t (c :: r) = if c.toNat = 10 then ((feedL n [] r).1, lineR t :: (feedL n [] r).2) else if (t.length : Int) = n then (⟨n, [], true⟩, []) else feedL n (t ++ [c]) r := rfl
theorem feed_append (n : Int) : ∀ (a b t : List UInt8), feedL n t (a ++ b) = if (feedL n t a).1.lg = true then feedL n t a else ((feedL n (feedL n t a).1.txt b).1, (feedL n t a).2 ++ (feedL n (feedL n t a).1.txt b).2)
  | [], b, t => by rw [feed_nil, List.nil_append]; rfl
  | c :: r, b, t => by
    rw [List.cons_append, feed_cons, feed_cons]
    by_cases h : c.toNat = 10
    · rw [if_pos h, if_pos h]
      have ih := feed_append n r b []
      rw [ih]
      dsimp only
      split
      · rfl
      · rfl
    · rw [if_neg h, if_neg h]
      by_cases h2 : (t.length : Int) = n
      · rw [if_pos h2, if_pos h2]
        rfl
      · rw [if_neg h2, if_neg h2]
        exact feed_append n r b (t ++ [c])
theorem hasN_append (a b : List UInt8) (n : Nat) : hasN (a ++ b) n = (hasN a n || hasN b n) := by
  unfold hasN
  rw [List.any_append]
/-- A splitter as feeding leaves it. -/
def Left (n : Int) (s : Sp) : Prop := s.lim = n ∧ (s.txt.length : Int) ≤ n ∧ hasN s.txt 10 = false ∧ (s.lg = true → s.txt = [])
theorem feed_left (n : Int) (hn : 0 ≤ n) : ∀ (c t : List UInt8), (t.length : Int) ≤ n → hasN t 10 = false → Left n (feedL n t c).1
  | [], t, h1, h2 => ⟨rfl, h1, h2, fun h => by cases h⟩
  | c :: r, t, h1, h2 => by
    rw [feed_cons]
    by_cases h : c.toNat = 10
    · rw [if_pos h]
      exact feed_left n hn r [] (by simpa using hn) rfl
    · rw [if_neg h]
      by_cases h3 : (t.length : Int) = n
      · rw [if_pos h3]
        exact ⟨rfl, by simpa using hn, rfl, fun _ => rfl⟩
      · rw [if_neg h3]
        refine feed_left n hn r (t ++ [c]) (by simp; omega) ?_
        rw [hasN_append, h2]
        simp [hasN, h]
theorem Left.err {n : Int} {s : Sp} (h : Left n s) (h1 : 1 ≤ n) (h2 : n ≤ 1536) (hg : s.lg = false) : errS s = 0 := by
  obtain ⟨a, b, c, _⟩ := h
  have h3 : chkS s = 0 := by
    unfold chkS
    rw [if_neg (by omega), if_neg (by omega), c, hg]
    rfl
  unfold errS
  rw [if_pos h3, hg]
  rfl
/-- Lines so far, and what feeding the rest gives. -/
def goC (n : Int) (O : List Ln) (s : Sp) (c : List UInt8) : Sp × List Ln := if s.lg = true then (s, O) else ((feedL n s.txt c).1, O ++ (feedL n s.txt c).2)
theorem goC_step {n : Int} {O : List Ln} {s : Sp} {a b : List UInt8} (hg : s.lg = false) : goC n O s (a ++ b) = goC n (O ++ (feedL n s.txt a).2) (feedL n s.txt a).1 b := by
  unfold goC
  rw [hg, feed_append]
  simp only [Bool.false_eq_true, if_false]
  by_cases h : (feedL n s.txt a).1.lg = true
  · rw [if_pos h, if_pos h]
  · rw [if_neg h, if_neg h]
    simp only [List.append_assoc]
theorem goC_end {n : Int} {O : List Ln} {s : Sp} (hl : s.lim = n) : goC n O s [] = (s, O) := by
  unfold goC
  split
  · rfl
  · rename_i h
    rw [feed_nil]
    obtain ⟨a, b, c⟩ := s
    dsimp only at h hl
    subst hl
    simp at h
    subst h
    simp
/-- What At answers. -/
def atI (l : List Int) (i : Nat) : Int := l.getD i 0
theorem int_cell {w w' : World} {p : Option Addr} {l : List Int} (h : CellsIn w p (l.length * 1) (intC fun j => l.getD j 0)) (hb : Below w.heap.size w w') {k : Nat} (hk : k < l.length) : ∃ b off, p = some ⟨b, off, none⟩ ∧ b < w.heap.size ∧ w'.cell? ⟨b, off + k, none⟩ = some (.int .i64 (l.getD k 0)) := by
  obtain ⟨b, off, e, h1, h2⟩ := h k (by omega)
  exact ⟨b, off, e, h1, (hb.cell (p := ⟨b, off + k, none⟩) h1).trans h2⟩
set_option maxHeartbeats 1000000 in
theorem at_any (l : List Int) (p : Option Addr) (c : Nat) (i : Nat) (hi : i < 1000000) (w : World) (hC : CellsIn w p (l.length * 1) (intC fun j => l.getD j 0)) :
    Calls Try.prog 30 #[.slice p l.length c, .int .i64 (i : Int)] w fun e w' => e = .returned (.int .i64 (atI l i)) ∧ w = w' := by
  have d0 : decide ((i : Int) < 0) = false := decide_eq_false (by omega)
  by_cases h : i < l.length
  · obtain ⟨b, off, rfl, hb, hc⟩ := int_cell hC (Below.refl _ _) h
    have d1 : decide ((l.length : Int) ≤ (i : Int)) = false := decide_eq_false (by omega)
    have hb2 : (i : Int) < (l.length : Int) := by omega
    obtain ⟨v, hv⟩ : ∃ v, l.getD i 0 = v := ⟨_, rfl⟩
    have HV : Hid (atI l i = v) := Lib.hid hv
    rw [hv] at hc
    clear hC hv
    go_enter Try.func30, Try.ntmps30
    go_wp2_with fail
    go_ret
    exact ⟨by rw [HV.out]; rfl, rfl⟩
  · have d1 : decide ((l.length : Int) ≤ (i : Int)) = true := decide_eq_true (by omega)
    have HV : Hid (atI l i = 0) := Lib.hid (by unfold atI; rw [List.getD_eq_getElem?_getD, List.getElem?_eq_none (by omega)]; rfl)
    clear hC
    go_enter Try.func30, Try.ntmps30
    go_wp2_with fail
    go_ret
    exact ⟨by rw [HV.out]; rfl, rfl⟩
end Go.Proofs.Ytfagjhadfonhdaa
