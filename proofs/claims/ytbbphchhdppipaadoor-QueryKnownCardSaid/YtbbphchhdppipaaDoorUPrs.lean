/-
  Rows of one's own and read ones; lists of pairs in memory. No condition.
-/
import Derived.Test.YtbbphchhdppipaaDoorICells
import Derived.Test.YtbbphchhdppipaaDoorCBlk
import Derived.Test.YtbbphchhdppipaaDoorUPure
import Derived.Maps.AppendAt
import Derived.Laws.OwnMore
import Derived.Deep.AppendLies
import Derived.Laws.AppendOwnNone
import Derived.Deep.DeepCutAuto
import Derived.Deep.RegionHeld3
import Derived.Deep.QuietTactic
import Derived.BigQuiet
import Derived.Lib.ItoaMem
import Derived.Lib.Hide
import Derived.WalkSmall
namespace Go.Proofs.YtbbphchhdppipaaDoor
open Go.RowKit
theorem own_belowR {W W' : World} {base : Nat} {e : TypeId} {size n : Nat} {v : Value} {xs : List Value} (h : W.ownsRow base e size v n xs) (hb : Below W.heap.size W W') : W'.ownsRow base e size v n xs :=
  h.kept ⟨hb.os, hb.tape, hb.output, hb.size, fun k hk _ => hb.block k hk⟩ (Decidable.em _)
theorem below_grownR {n : Nat} {w W W' : World} {row : Option Nat} (hB : Below n w W) (hn : n ≤ W.heap.size) (hg : W.grownBy W' row) (hr : ∀ r, row = some r → n ≤ r) : Below n w W' :=
  hB.trans ⟨hg.os, hg.tape, hg.output, hg.size, fun k hk => hg.block k (Nat.lt_of_lt_of_le hk hn) (fun e => by have := hr k e.symm; omega)⟩
theorem own_slice {w : World} {base : Nat} {e : TypeId} {size n : Nat} {v : Value} {xs : List Value} (h : w.ownsRow base e size v n xs) : ∃ p c, v = .slice p n c := by
  rcases h.2 with ⟨rfl, rfl⟩ | ⟨g, cap, cur, rfl, _⟩
  · exact ⟨none, 0, rfl⟩
  · exact ⟨_, cap, rfl⟩
/-- A row of one's own as cells to read. -/
theorem cells_of_own {w : World} {base : Nat} {e : TypeId} {size n : Nat} {v : Value} {xs : List Value} (h : w.ownsRow base e size v n xs) (hl : xs.length = n * size) : ∃ p cap, v = .slice p n cap ∧ CellsIn w p (n * size) (fun j => xs.getD j (.int .i64 0)) := by
  by_cases hn : 0 < n
  · obtain ⟨g, cap, rfl, _, _⟩ := h.form hn
    refine ⟨_, cap, rfl, fun j hj => ⟨g, 0, rfl, (h.lt g rfl).2, ?_⟩⟩
    rw [Nat.zero_add, h.cellAt j hj]
    dsimp only
    rw [List.getD_eq_getElem?_getD, List.getElem?_eq_getElem (by omega : j < xs.length)]
    rfl
  · obtain rfl : n = 0 := by omega
    rcases h.2 with ⟨rfl, _⟩ | ⟨g, cap, cur, rfl, _⟩
    · exact ⟨none, 0, rfl, fun j hj => absurd hj (by simp)⟩
    · exact ⟨_, cap, rfl, fun j hj => absurd hj (by simp)⟩
/-- The slice holds the pairs. -/
def PrsIn (w : World) (p : Option Addr) (L : List Pr) : Prop := CellsIn w p (L.length * 3) (fun j => (prsC L).getD j (.int .i64 0))
def PrsAt (w : World) (v : Value) (L : List Pr) : Prop := ∃ p cap, v = .slice p L.length cap ∧ (p = none → cap = 0) ∧ PrsIn w p L
theorem PrsAt.below {k : Nat} {w w' : World} {v : Value} {L : List Pr} (h : PrsAt w v L) (hb : Below k w w') (hk : w.heap.size ≤ k) : PrsAt w' v L := by
  obtain ⟨p, cap, h1, h2, h3⟩ := h
  exact ⟨p, cap, h1, h2, h3.below hb hk⟩
theorem PrsAt.nil (w : World) : PrsAt w (.slice none 0 0) [] := ⟨none, 0, rfl, fun _ => rfl, fun j hj => absurd hj (by simp)⟩
theorem prs_of_own {w : World} {base : Nat} {e : TypeId} {v : Value} {L : List Pr} (h : w.ownsRow base e 3 v L.length (prsC L)) : PrsAt w v L := by
  obtain ⟨p, cap, rfl, h2⟩ := cells_of_own h (prsC_length L)
  refine ⟨p, cap, rfl, fun hp => ?_, h2⟩
  subst hp
  rcases h.2 with ⟨h3, _⟩ | ⟨g, cap, cur, h3, _⟩
  · injection h3
  · simp at h3
theorem prsC_append (A B : List Pr) : prsC (A ++ B) = prsC A ++ prsC B := by
  unfold prsC
  rw [List.flatMap_append]
theorem prsC_one : ∀ (L : List Pr), ∀ u ∈ prsC L, u.oneCell' = true
  | [], u, h => by cases h
  | f :: r, u, h => by
    rcases List.mem_cons.1 h with rfl | h
    · rfl
    · rcases List.mem_cons.1 h with rfl | h
      · rfl
      · rcases List.mem_cons.1 h with rfl | h
        · rfl
        · exact prsC_one r u h
/-- The cells of pair k. -/
theorem prsC_at : ∀ (L : List Pr) (k : Nat) (hk : k < L.length), (prsC L).getD (k * 3) (.int .i64 0) = .string ⟨(L[k]).nm.toArray⟩ ∧ (prsC L).getD (k * 3 + 1) (.int .i64 0) = .string ⟨(L[k]).vl.toArray⟩ ∧ (prsC L).getD (k * 3 + 2) (.int .i64 0) = .bool (L[k]).br
  | [], k, hk => absurd hk (by simp)
  | f :: r, 0, hk => ⟨rfl, rfl, rfl⟩
  | f :: r, k + 1, hk => by
    have ih := prsC_at r k (by simpa using hk)
    have e : ∀ j, (prsC (f :: r)).getD (j + 3) (.int .i64 0) = (prsC r).getD j (.int .i64 0) := fun j => rfl
    have a0 : (k + 1) * 3 = k * 3 + 3 := by omega
    have a1 : (k + 1) * 3 + 1 = k * 3 + 1 + 3 := by omega
    have a2 : (k + 1) * 3 + 2 = k * 3 + 2 + 3 := by omega
    rw [a0, show k * 3 + 3 + 1 = k * 3 + 1 + 3 by omega, show k * 3 + 3 + 2 = k * 3 + 2 + 3 by omega, e, e, e]
    exact ih
theorem pr_cells {w w' : World} {p : Option Addr} {L : List Pr} (h : PrsIn w p L) (hb : Below w.heap.size w w') {k : Nat} (hk : k < L.length) : ∃ b off, p = some ⟨b, off, none⟩ ∧ b < w.heap.size ∧
    w'.cell? ⟨b, off + k * 3, none⟩ = some (.string ⟨(L[k]).nm.toArray⟩) ∧ w'.cell? ⟨b, off + k * 3 + 1, none⟩ = some (.string ⟨(L[k]).vl.toArray⟩) ∧ w'.cell? ⟨b, off + k * 3 + 2, none⟩ = some (.bool (L[k]).br) := by
  obtain ⟨b, off, rfl, h1, h2⟩ := h (k * 3) (by omega)
  obtain ⟨c0, c1, c2⟩ := prsC_at L k hk
  have x1 := h.cell (k * 3 + 1) (by omega)
  have x2 := h.cell (k * 3 + 2) (by omega)
  dsimp only at h2 x1 x2
  rw [c0] at h2
  rw [c1, ← Nat.add_assoc] at x1
  rw [c2, ← Nat.add_assoc] at x2
  exact ⟨b, off, rfl, h1, (hb.cell (p := ⟨b, _, none⟩) h1).trans h2, (hb.cell (p := ⟨b, _, none⟩) h1).trans x1, (hb.cell (p := ⟨b, _, none⟩) h1).trans x2⟩
theorem pnews_of {w W : World} {p : Addr} {L : List Pr} (h : PrsIn w (some p) L) (hb : Below w.heap.size w W) (j : Nat) (u : Value) (hu : (prsC L)[j]? = some u) : W.cell? (p.add j) = some u := by
  have hj : j < L.length * 3 := by
    rw [← prsC_length]
    exact (List.getElem?_eq_some_iff.1 hu).1
  obtain ⟨b, off, e, h1, h2⟩ := h j hj
  injection e with e
  subst e
  dsimp only at h2
  rw [List.getD_eq_getElem?_getD, hu] at h2
  rw [Lib.add_plain]
  exact (hb.cell (p := ⟨b, off + j, none⟩) h1).trans h2
theorem infoPr : (Tryd.prog.info? 40).map (fun i => (i.zero, i.size, i.bytes)) = some (some (.agg #[.string ⟨#[]⟩, .string ⟨#[]⟩, .bool false]), 3, 40) := by kernel_rfl
end Go.Proofs.YtbbphchhdppipaaDoor
