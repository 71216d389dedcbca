/-
  What the functions of package line answer, as values and memory.
-/
import Derived.Test.YtfagjhadfonhdaaLJoin
import Derived.Lib.ItoaMem
namespace Go.Proofs.Ytfagjhadfonhdaa
open Go.RowKit
/-- The slice holds the lines, in memory from block base on. -/
def LnsN (base : Nat) (w : World) (v : Value) (L : List Ln) : Prop := ∃ p cap, v = .slice p L.length cap ∧ (p = none → cap = 0) ∧ (∀ a, p = some a → 0 < L.length → base ≤ a.block) ∧ LnsIn w p L
theorem LnsN.at' {base : Nat} {w : World} {v : Value} {L : List Ln} (h : LnsN base w v L) : LnsAt w v L := by
  obtain ⟨p, cap, h1, h2, _, h3⟩ := h
  exact ⟨p, cap, h1, h2, h3⟩
theorem LnsN.below {base k : Nat} {w w' : World} {v : Value} {L : List Ln} (h : LnsN base w v L) (hb : Below k w w') (hk : w.heap.size ≤ k) : LnsN base w' v L := by
  obtain ⟨p, cap, h1, h2, h3, h4⟩ := h
  exact ⟨p, cap, h1, h2, h3, h4.below hb hk⟩
theorem LnsN.set {base : Nat} {w : World} {v : Value} {L : List Ln} (h : LnsN base w v L) {a : Addr} (ha : a.block < base) (u : Value) : LnsN base (w.setCell a u) v L := by
  obtain ⟨p, cap, h1, h2, h3, h4⟩ := h
  refine ⟨p, cap, h1, h2, h3, fun j hj => ?_⟩
  obtain ⟨b, off, e, hb1, hb2⟩ := h4 j hj
  have hne : b ≠ a.block := by
    have := h3 _ e (by omega)
    dsimp only at this
    omega
  refine ⟨b, off, e, by simpa using hb1, ?_⟩
  rw [← hb2]
  unfold World.cell?
  dsimp only
  rw [Below.heap_setCell _ _ _ _ hne]
theorem lnsN_of_own {w : World} {base : Nat} {e : TypeId} {v : Value} {L : List Ln} (h : w.ownsRow base e 2 v L.length (lnsC L)) : LnsN base w v L := by
  obtain ⟨p, cap, h1, h2, h3⟩ := lns_of_own h
  refine ⟨p, cap, h1, h2, fun a e hl => ?_, h3⟩
  obtain ⟨b, off, e2, _, _⟩ := h3 0 (by omega)
  obtain ⟨g, c, hf, _, _⟩ := h.form hl
  have hg := h.lt g (by rw [hf]; rfl)
  rw [h1] at hf
  injection hf with hp
  rw [e] at hp
  injection hp with hp
  rw [hp]
  exact hg.1
theorem lnsC_one : ∀ (L : List Ln), ∀ u ∈ lnsC L, u.oneCell' = true
  | [], u, h => by cases h
  | f :: r, u, h => by
    rcases List.mem_cons.1 h with rfl | h
    · rfl
    · rcases List.mem_cons.1 h with rfl | h
      · rfl
      · exact lnsC_one r u h
theorem lnews_of {w W : World} {p : Addr} {L : List Ln} (h : LnsIn w (some p) L) (hb : Below w.heap.size w W) (j : Nat) (u : Value) (hu : (lnsC L)[j]? = some u) : W.cell? (p.add j) = some u := by
  have hj : j < L.length * 2 := by
    rw [← lnsC_length]
    exact (List.getElem?_eq_some_iff.1 hu).1
  obtain ⟨b, off, e, h1, h2⟩ := h j hj
  injection e with e
  subst e
  dsimp only at h2
  rw [List.getD_eq_getElem?_getD, hu] at h2
  rw [Lib.add_plain]
  exact (hb.cell (p := ⟨b, off + j, none⟩) h1).trans h2
theorem lns_nil {w : World} {L : List Ln} (h : LnsIn w none L) : L = [] := by
  cases L with
  | nil => rfl
  | cons x r =>
    obtain ⟨b, off, e, _⟩ := h 0 (by simp)
    cases e
/-- A splitter, lines and an error. -/
def FeedRes (base : Nat) (R : (Sp × List Ln) × Nat) (e : Ending) (w : World) : Prop := ∃ v, e = .returned (.tuple #[spV R.1.1, v, .int .i64 (R.2 : Nat)]) ∧ LnsN base w v R.1.2
/-- Lines, a text and an error. -/
def SplitRes (R : (List Ln × List UInt8) × Nat) (e : Ending) (w : World) : Prop := ∃ v, e = .returned (.tuple #[v, .string ⟨R.1.2.toArray⟩, .int .i64 (R.2 : Nat)]) ∧ LnsAt w v R.1.1
theorem FeedPost.res {base : Nat} {R : (Sp × List Ln) × Nat} {e : Ending} {w : World} (h : FeedPost base R e w) : FeedRes base R e w := by
  obtain ⟨v, h1, h2⟩ := h
  exact ⟨v, h1, lnsN_of_own h2⟩
theorem SplitPost.res {base : Nat} {R : (List Ln × List UInt8) × Nat} {e : Ending} {w : World} (h : SplitPost base R e w) : SplitRes R e w := by
  obtain ⟨v, h1, h2⟩ := h
  exact ⟨v, h1, lns_of_own h2⟩
end Go.Proofs.Ytfagjhadfonhdaa
