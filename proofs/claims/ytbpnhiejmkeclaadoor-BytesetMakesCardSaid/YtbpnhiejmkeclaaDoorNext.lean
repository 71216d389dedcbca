/-
  byteset.Next: the least byte of the set that is at least the given number, or nought and ErrMissing, for every set and every int. The table of math/bits must lie in its variable.
-/
import Derived.Test.YtbpnhiejmkeclaaDoorIter
namespace Go.Proofs.YtbpnhiejmkeclaaDoor
open Go.RowKit Go.Shelf
attribute [local go_sem] Oper.semAt_some
/-- What Next answers: the least byte of s that is at least f, or nought and ErrMissing. -/
def nextOf (s : WSet) (f : Nat) : Nat × Nat := match upto s f 256 with
  | [] => (0, 6)
  | x :: _ => (x, 0)
/-- The memory of Next: its two result cells. -/
def NextMem (w : World) (W : World) (x y : Int) : Prop :=
  W.cell? ⟨w.heap.size + 1, 0, none⟩ = some (.int .i64 x) ∧ W.cell? ⟨w.heap.size + 1 + 1, 0, none⟩ = some (.int .i64 y) ∧ W.frozen? ⟨w.heap.size + 1, 0, none⟩ = false ∧ W.frozen? ⟨w.heap.size + 1 + 1, 0, none⟩ = false
theorem NextMem.kept {w A B : World} {x y : Int} {row : Option Nat} (h : NextMem w A x y) (hg : A.grownBy B row) (hr : ∀ r, row = some r → ∃ o : Obj, A.heap[r]? = some o ∧ o.isCells = false) : NextMem w B x y :=
  ⟨cell_kept h.1 hg hr, cell_kept h.2.1 hg hr, (frozen_kept h.1 hg hr).trans h.2.2.1, (frozen_kept h.2.1 hg hr).trans h.2.2.2⟩
theorem NextMem.set {w W : World} {x y : Int} (h : NextMem w W x y) (x' y' : Int) : NextMem w ((W.setCell ⟨w.heap.size + 1, 0, none⟩ (.int .i64 x')).setCell ⟨w.heap.size + 1 + 1, 0, none⟩ (.int .i64 y')) x' y' := by
  obtain ⟨h1, h2, h3, h4⟩ := h
  refine ⟨?_, ?_, ?_, ?_⟩
  · go_cell
  · go_cell
  · rw [World.frozen?_setCell, World.frozen?_setCell]; exact h3
  · rw [World.frozen?_setCell, World.frozen?_setCell]; exact h4
theorem NextMem.results {w W : World} {x y : Int} (h : NextMem w W x y) {fn : Func} (hr : fn.results = #[.cell 4 3, .cell 5 28]) (tmps : Array Value)
    (h4 : tmps.getD 4 undef = .pointer (some ⟨w.heap.size + 1, 0, none⟩)) (h5 : tmps.getD 5 undef = .pointer (some ⟨w.heap.size + 1 + 1, 0, none⟩)) : (Go.results fn tmps).run Tryd.prog W = .ok (.tuple #[.int .i64 x, .int .i64 y]) W := by
  obtain ⟨h1, h2, -, -⟩ := h
  have h4' : tmps[4]?.getD undef = .pointer (some ⟨w.heap.size + 1, 0, none⟩) := by simpa using h4
  have h5' : tmps[5]?.getD undef = .pointer (some ⟨w.heap.size + 1 + 1, 0, none⟩) := by simpa using h5
  simp [Go.results, hr, h4', h5', go_sem, h1, h2]
set_option maxRecDepth 100000 in
set_option maxHeartbeats 2000000 in
theorem next_any (a b c d : BitVec 64) (from_ : Int) (hf : from_ ≤ 9223372036854775807) (w : World) (hT : Tab w) (h0w : 0 < w.heap.size) :
    Calls Tryd.prog 18 #[.agg #[.int .u64 a.toNat, .int .u64 b.toNat, .int .u64 c.toNat, .int .u64 d.toNat], .int .i64 from_] w fun e w' =>
      e = .returned (.tuple #[.int .i64 ((nextOf ⟨a, b, c, d⟩ from_.toNat).1 : Nat), .int .i64 ((nextOf ⟨a, b, c, d⟩ from_.toNat).2 : Nat)]) ∧ Below w.heap.size w w' := by
  refine (callsIn_wide (n := 3)).1 ?_
  refine callsIn_of_wp_marks Tryd.func18 rfl trivial ?_ rfl
  simp only [Tryd.ntmps18, List.size_toArray, List.length_cons, List.length_nil, Nat.reduceAdd, Nat.reduceSub, Array.replicate_succ, Array.replicate_zero, List.push_toArray, List.append_toArray, List.nil_append, List.cons_append]
  gi_wp2_with (refine ⟨trivial, ?_⟩; gi_at_call 43; refine (callsIn_wide.2 (bytesFrom_any _ _ _ _ _ _)).mono ?_; rintro e w' ⟨rfl, rfl⟩)
  generalize hw5 : ((((w.alloc (.cells #[.int .u64 a.toNat, .int .u64 b.toNat, .int .u64 c.toNat, .int .u64 d.toNat] 24)).alloc (.cells #[.int .i64 0] 3)).alloc (.cells #[.int .i64 0] 28)).alloc (.cells #[.int .u64 a.toNat, .int .u64 b.toNat, .int .u64 c.toNat, .int .u64 d.toNat] 24)).alloc (.cells #[.int .i64 (max from_ 0)] 3) = w5
  have hz5 : w5.heap.size = w.heap.size + 5 := by rw [← hw5]; simp
  have hB5 : Below w.heap.size w w5 := by rw [← hw5]; go_grown
  have hM5 : NextMem w w5 0 0 := by
    rw [← hw5]
    clear hB5 hz5 hw5
    refine ⟨?_, ?_, ?_, ?_⟩
    · go_cell
    · go_cell
    · simp [go_sem]
    · simp [go_sem]
  have hS5 : Blk w5 (w.heap.size + 1 + 1 + 1) ⟨a, b, c, d⟩ := by
    rw [← hw5]
    have := (Blk.new (((w.alloc (.cells #[.int .u64 a.toNat, .int .u64 b.toNat, .int .u64 c.toNat, .int .u64 d.toNat] 24)).alloc (.cells #[.int .i64 0] 3)).alloc (.cells #[.int .i64 0] 28)) ⟨a, b, c, d⟩).alloc (.cells #[.int .i64 (max from_ 0)] 3)
    simpa only [World.size_alloc] using this
  have hF5 : w5.cell? ⟨w.heap.size + 1 + 1 + 1 + 1, 0, none⟩ = some (.int .i64 (from_.toNat : Int)) := by
    rw [← hw5, Int.ofNat_toNat]
    clear hB5 hz5 hM5 hS5 hw5
    go_cell
  have hT5 : Tab w5 := hT.below hB5 h0w
  refine wpIn_rangeFunc_ownG rfl (by omega) (gf := 50) (lb := #[.pointer (some ⟨w.heap.size + 1 + 1 + 1 + 1, 0, none⟩), .pointer (some ⟨w.heap.size + 1 + 1 + 1, 0, none⟩)]) rfl trivial (enters_of Tryd.func50 (by kernel_rfl) rfl)
    (bytes_stops (3 - 1) (by omega) (w.heap.size + 1 + 1 + 1 + 1) (w.heap.size + 1 + 1 + 1) from_.toNat (fun k => k = 0 ∨ k = w.heap.size + 1 + 1 + 1 ∨ k = w.heap.size + 1 + 1 + 1 + 1) (by omega) ⟨a, b, c, d⟩ (Or.inr (Or.inr rfl)) (Or.inr (Or.inl rfl)) (Or.inl rfl) w5 (by intro k hk; omega) hT5 hS5 hF5)
    KeepsAt.trans (keepsAt_b (by intro k hk; omega)) (Below.refl _ _) (fun _ => rfl)
    (fun pre W => (pre = [] ∧ NextMem w W 0 0) ∧ Below w.heap.size w W)
    (fun c pre W => (c = .ret ∧ ∃ x : Nat, pre = [x] ∧ NextMem w W x 0) ∧ Below w.heap.size w W)
    (OwnFrom.and (Own.from (fun s A B row hs hg hr => ⟨hs.1, hs.2.kept hg hr⟩) _) (ownFrom_below (Nat.le_refl _) (by omega)))
    (fun c => OwnFrom.and (Own.from (fun s A B row hs hg hr => by obtain ⟨hc, x, e1, e2⟩ := hs; exact ⟨hc, x, e1, e2.kept hg hr⟩) _) (ownFrom_below (Nat.le_refl _) (by omega)))
    ⟨⟨rfl, hM5⟩, hB5⟩
    (fun x => { tmps := #[.agg #[.int .u64 a.toNat, .int .u64 b.toNat, .int .u64 c.toNat, .int .u64 d.toNat], .int .i64 from_, .pointer (some ⟨w.heap.size, 0, none⟩), undef, .pointer (some ⟨w.heap.size + 1, 0, none⟩), .pointer (some ⟨w.heap.size + 1 + 1, 0, none⟩), .int .i64 (x : Int), .agg #[.int .u64 a.toNat, .int .u64 b.toNat, .int .u64 c.toNat, .int .u64 d.toNat], .int .i64 from_,
        .func (.func 50) #[] #[.pointer (some ⟨w.heap.size + 1 + 1 + 1 + 1, 0, none⟩), .pointer (some ⟨w.heap.size + 1 + 1 + 1, 0, none⟩)], .int .i64 (x : Int), undef], defers := [] }) ?assign ?body ?done ?stop
  case assign =>
    intro l x W K hK
    gi_wp2
    exact hK
  case body =>
    rintro l pre x W ⟨⟨rfl, hM⟩, hB⟩ _
    obtain ⟨m1, m2, m3, m4⟩ := id hM
    gi_wp2
    refine ⟨?_, ⟨rfl, x, rfl, hM.set x 0⟩, (hB.setCell (by simp) _).setCell (by simp; omega) _⟩
    exact ((KeepsOthers.setCell _ _ _).trans (KeepsOthers.setCell _ _ _)).from _
  case done =>
    rintro D ys W hD rfl ⟨⟨hne, hM⟩, hB⟩ hK
    obtain ⟨m1, m2, m3, m4⟩ := id hM
    gi_wp2
    have hM' : NextMem w _ 0 6 := hM.set 0 6
    have hK' := ((KeepsOthers.setCell W ⟨w.heap.size + 1, 0, none⟩ (.int .i64 0)).trans (KeepsOthers.setCell _ ⟨w.heap.size + 1 + 1, 0, none⟩ (.int .i64 6))).same D _ hK rfl
    have hB' : Below w.heap.size w _ := (hB.setCell (p := ⟨w.heap.size + 1, 0, none⟩) (by simp) (.int .i64 0)).setCell (p := ⟨w.heap.size + 1 + 1, 0, none⟩) (by simp; omega) (.int .i64 6)
    refine ⟨by simp, .inl ⟨_, _, rfl, run_takeDeferred hK', ?_⟩⟩
    refine ⟨_, (hM'.kept (grownBy_putObj' _ D (.deferred none)) (fun r e => by cases e; exact ⟨_, hK', rfl⟩)).results rfl _ rfl rfl, ?_, hB'.trans (belowK_b (w := w) (Nat.le_refl _) _ D _ _ (by omega) hK' rfl rfl)⟩
    have hn : nextOf ⟨a, b, c, d⟩ from_.toNat = (0, 6) := by unfold nextOf; rw [hne]
    rw [hn]
    rfl
  case stop =>
    rintro D c' pre W hD ⟨k, hk⟩ ⟨⟨rfl, x, rfl, hM⟩, hB⟩ hK
    gi_wp2
    refine ⟨by simp, .inl ⟨_, _, rfl, run_takeDeferred hK, ?_⟩⟩
    refine ⟨_, (hM.kept (grownBy_putObj' _ D (.deferred none)) (fun r e => by cases e; exact ⟨_, hK, rfl⟩)).results rfl _ rfl rfl, ?_, hB.trans (belowK_b (w := w) (Nat.le_refl _) _ D _ _ (by omega) hK rfl rfl)⟩
    have hn : nextOf ⟨a, b, c, d⟩ from_.toNat = (x, 0) := by unfold nextOf; rw [← hk]; rfl
    rw [hn]
    rfl
end Go.Proofs.YtbpnhiejmkeclaaDoor
