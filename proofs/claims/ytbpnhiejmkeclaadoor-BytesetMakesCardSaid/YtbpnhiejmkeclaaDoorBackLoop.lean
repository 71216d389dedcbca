/-
  The bytes of a set one after the other: which comes next, how many there are, and where a slice of them lies. No condition.
-/
import Derived.Test.YtbpnhiejmkeclaaDoorBackFacts
import Derived.Test.YtbpnhiejmkeclaaDoorCount
namespace Go.Proofs.YtbpnhiejmkeclaaDoor
open Go.RowKit Go.Shelf
theorem filter_step (q : Nat → Bool) (f x : Nat) : ∀ (l rest : List Nat), l.Pairwise (· < ·) → (l.filter fun b => decide (f ≤ b) && q b) = x :: rest → rest = l.filter fun b => decide (x + 1 ≤ b) && q b
  | [], rest, _, h => by cases h
  | y :: ys, rest, hp, h => by
    obtain ⟨h1, h2⟩ := List.pairwise_cons.1 hp
    rw [List.filter_cons] at h ⊢
    split at h
    · rename_i hy
      injection h with e1 e2
      subst e1
      have : ¬ (y + 1 ≤ y) := by omega
      simp only [this, decide_false, Bool.false_and, Bool.false_eq_true, if_false]
      rw [← e2]
      refine List.filter_congr fun z hz => ?_
      have := h1 z hz
      simp only [Bool.and_eq_true, decide_eq_true_eq] at hy
      have e3 : f ≤ z := by omega
      have e4 : y + 1 ≤ z := by omega
      simp [e3, e4]
    · rename_i hy
      have ih := filter_step q f x ys rest h2 h
      have hx : x ∈ ys.filter fun b => decide (f ≤ b) && q b := by rw [h]; exact List.mem_cons_self
      have hx2 := (List.mem_filter.1 hx).2
      simp only [Bool.and_eq_true, decide_eq_true_eq] at hx2
      rw [if_neg]
      · exact ih
      · intro hc
        simp only [Bool.and_eq_true, decide_eq_true_eq] at hc hy
        exact hy ⟨by omega, hc.2⟩
theorem upto_rest {s : WSet} {f x : Nat} {rest : List Nat} (h : upto s f 256 = x :: rest) : rest = upto s (x + 1) 256 :=
  filter_step s.has f x _ _ List.pairwise_lt_range h
theorem nextOf_upto {s : WSet} {f x : Nat} {rest : List Nat} (h : upto s f 256 = x :: rest) : nextOf s f = (x, 0) := by
  unfold nextOf; rw [h]
theorem nextOf_none {s : WSet} {f : Nat} (h : upto s f 256 = []) : nextOf s f = (0, 6) := by
  unfold nextOf; rw [h]
theorem upto_mem {s : WSet} {f x : Nat} (h : x ∈ upto s f 256) : x < 256 := List.mem_range.1 (List.mem_filter.1 h).1
theorem pc_bits (x : BitVec 64) : pc x = (List.range 64).countP fun i => x.getLsbD i := rfl
theorem has_bit_word (s : WSet) (k i : Nat) (hi : i < 64) : s.has (64 * k + i) = (s.w k).getLsbD i := by
  unfold WSet.has
  rw [show (64 * k + i) / 64 = k by omega, show (64 * k + i) % 64 = i by omega]
theorem count_upto (s : WSet) : (upto s 0 256).length = countOf s := by
  unfold upto countOf
  rw [← List.countP_eq_length_filter]
  have part : ∀ k, ((List.range 64).map (64 * k + ·)).countP (fun b => decide (0 ≤ b) && s.has b) = pc (s.w k) := by
    intro k
    rw [List.countP_map, pc_bits]
    refine List.countP_congr fun i hi => ?_
    have hi : i < 64 := List.mem_range.1 hi
    simp [has_bit_word s k i hi]
  have p0 := part 0
  have p1 := part 1
  have p2 := part 2
  have p3 := part 3
  rw [show (256 : Nat) = 64 + (64 + (64 + 64)) by rfl, List.range_add, List.range_add, List.range_add]
  simp only [List.map_append, List.map_map, List.countP_append]
  have m1 : ∀ (l : List Nat), l.map ((fun x => 64 + x) ∘ fun x => 64 + x) = l.map (64 * 2 + ·) := fun l => List.map_congr_left fun x _ => by simp [Function.comp]; omega
  have m2 : ∀ (l : List Nat), l.map ((fun x => 64 + x) ∘ (fun x => 64 + x) ∘ fun x => 64 + x) = l.map (64 * 3 + ·) := fun l => List.map_congr_left fun x _ => by simp [Function.comp]; omega
  have m0 : (List.range 64).map (64 * 0 + ·) = List.range 64 := by simp
  rw [m0] at p0
  rw [p0, m1, m2, p2, p3]
  rw [show (64 : Nat) * 1 = 64 from rfl] at p1
  rw [p1]
  show pc s.a + (pc s.b + (pc s.c + pc s.d)) = _
  omega
/-- The slice that holds a list of bytes. -/
theorem owned_slice {W : World} {base : Nat} {v : Value} {L : List Nat} (hL : ∀ x ∈ L, x < 256) (h : W.ownsRow base 5 1 v L.length (L.map enc8)) : ∃ p cap, v = .slice p L.length cap ∧ ∀ (k x : Nat), L[k]? = some x → ∃ g : Nat, p = some ⟨g, 0, none⟩ ∧ g < W.heap.size ∧ W.cell? ⟨g, k, none⟩ = some (.int .u8 (x : Int)) := by
  rcases h.2 with ⟨rfl, h0⟩ | ⟨g, cap, cur, rfl, hg, hh, h1, h2, h3, h4⟩
  · obtain rfl : L = [] := List.eq_nil_of_length_eq_zero h0
    exact ⟨none, 0, rfl, fun k x hx => by simp at hx⟩
  · refine ⟨_, _, rfl, fun k x hx => ⟨g, rfl, lt_of_block hh, ?_⟩⟩
    obtain ⟨hk, hx'⟩ := List.getElem?_eq_some_iff.1 hx
    rw [cell_of_row W g k cur _ _ hh]
    have e1 : (cur.toList.take (L.length * 1))[k]? = (L.map enc8)[k]? := by rw [h4]
    rw [List.getElem?_take_of_lt (by omega)] at e1
    rw [← Array.getElem?_toList, e1, List.getElem?_map, hx]
    have : x < 256 := hL x (List.mem_of_getElem? hx)
    simp [enc8]
    omega
end Go.Proofs.YtbpnhiejmkeclaaDoor
