/-
  The reference's sets: with, Of, Union. No condition.
-/
import Derived.Test.YtjinedeelkdgiaaDoorHRanges
import Derived.Test.YtjinedeelkdgiaaDoorHOwn
import Derived.IntWalk
namespace Go.Proofs.YtjinedeelkdgiaaDoor
open Go.RowKit
attribute [local go_sem] w_0 w_1 w_2 w_3
set_option maxHeartbeats 400000 in
theorem refWith_any (a b c d : BitVec 64) (n : Nat) (hn : n < 256) (w : World) :
    Calls Tryd.prog 75 #[.agg #[.int .u64 a.toNat, .int .u64 b.toNat, .int .u64 c.toNat, .int .u64 d.toNat], .int .u8 (n : Int)] w fun e w' => e = .returned ((WSet.mk a b c d).add n).v ∧ Below w.heap.size w w' := by
  go_enter Tryd.func75, Tryd.ntmps75
  go_upto_region 1 with fail
  have h1 := (Blk.new w ⟨a, b, c, d⟩).alloc (.cells #[.int .u64 0, .int .u64 0, .int .u64 0, .int .u64 0] 38)
  have h2 := Blk.new0 (w.alloc (.cells #[.int .u64 a.toNat, .int .u64 b.toNat, .int .u64 c.toNat, .int .u64 d.toNat] 38))
  rw [World.size_alloc] at h2
  have hB : Below w.heap.size w ((w.alloc (.cells #[.int .u64 a.toNat, .int .u64 b.toNat, .int .u64 c.toNat, .int .u64 d.toNat] 38)).alloc (.cells #[.int .u64 0, .int .u64 0, .int .u64 0, .int .u64 0] 38)) := by go_grown
  obtain ⟨W, hW⟩ : ∃ W, (w.alloc (.cells #[.int .u64 a.toNat, .int .u64 b.toNat, .int .u64 c.toNat, .int .u64 d.toNat] 38)).alloc (.cells #[.int .u64 0, .int .u64 0, .int .u64 0, .int .u64 0] 38) = W := ⟨_, rfl⟩
  rw [hW] at h1 h2 hB ⊢
  clear hW
  go_cut [5] (fun p wx => p = .int .u8 (n : Int) ∧ Blk wx w.heap.size ((WSet.mk a b c d).add n) ∧ Blk wx (w.heap.size + 1) .empty ∧ Below w.heap.size w wx)
  case first =>
    have hw := h1.cell (n / 64) (by omega)
    have hf := h1.free (n / 64)
    go_wp2_with fail
    go_meet
    refine ⟨rfl, ?_, h2.other _ (by simp) _, hB.setCell (by simp) _⟩
    rw [add_word _ _ _ rfl]; exact h1.set _ (by omega) _
  case rest =>
  obtain ⟨rfl, h1, h2, hB⟩ := hcut
  obtain ⟨c0, c1, c2, c3⟩ := h1.cells
  obtain ⟨d0, d1, d2, d3⟩ := h2.cells
  obtain ⟨f0, f1, f2, f3⟩ := h2.frees
  go_wp2_with fail
  exact bodyPost_ret ((h2.store ((WSet.mk a b c d).add n)).results rfl _ rfl) rfl ⟨rfl, Blk.belowStore _ hB (by omega)⟩
/-- The slice holds the bytes f 0, .., f (len - 1). -/
def BytesIn (w : World) (p : Option Addr) (len : Nat) (f : Nat → Nat) : Prop := ∀ j, j < len → f j < 256 ∧ ∃ b off : Nat, p = some ⟨b, off, none⟩ ∧ b < w.heap.size ∧ w.cell? ⟨b, off + j, none⟩ = some (.int .u8 (f j : Int))
set_option maxHeartbeats 1000000 in
theorem refOf_any (p : Option Addr) (len cap : Nat) (f : Nat → Nat) (hlen : len ≤ maxLen) (w : World) (hc : BytesIn w p len f) :
    Calls Tryd.prog 46 #[.slice p len cap] w fun e w' => e = .returned (addTo .empty f len).v ∧ Below w.heap.size w w' := by
  unfold maxLen at hlen
  have HC : Hid (BytesIn w p len f) := hc
  clear hc
  go_enter Tryd.func46, Tryd.ntmps46
  go_wp2_with fail
  go_loopw [4] (fun i wr => ∃ k : Nat, k ≤ len ∧ i = .int .i64 k ∧ Blk wr w.heap.size .empty ∧ Blk wr (w.heap.size + 1) (addTo .empty f k) ∧ Below w.heap.size w wr)
    (fun i _ => len - (intOf i).toNat)
  case atStart =>
    refine ⟨0, Nat.zero_le _, rfl, (Blk.new0 w).alloc _, ?_, ?_⟩
    · have := Blk.new0 (w.alloc (.cells #[.int .u64 0, .int .u64 0, .int .u64 0, .int .u64 0] 38))
      rw [World.size_alloc] at this
      exact this
    · go_grown
  case round =>
    obtain ⟨k, hk, rfl, h1, h2, hB⟩ := hrel
    by_cases hlt : k < len
    · obtain ⟨hn, b, off, rfl, hbw, hcl⟩ := HC.out k hlt
      have hcell : wr.cell? ⟨b, off + k, none⟩ = some (.int .u8 (f k : Int)) := (hB.cell (p := ⟨b, off + k, none⟩) hbw).trans hcl
      obtain ⟨t0, t1, t2, t3, ht⟩ : ∃ t0 t1 t2 t3, Hid (addTo .empty f k = ⟨t0, t1, t2, t3⟩) := ⟨_, _, _, _, Lib.hid rfl⟩
      rw [ht.out] at h2
      obtain ⟨u0, u1, u2, u3, hu⟩ : ∃ u0 u1 u2 u3, Hid ((WSet.mk t0 t1 t2 t3).add (f k) = ⟨u0, u1, u2, u3⟩) := ⟨_, _, _, _, Lib.hid rfl⟩
      obtain ⟨x, hx⟩ : ∃ x, f k = x := ⟨_, rfl⟩
      rw [hx] at hcell hu hn
      obtain ⟨c0, c1, c2, c3⟩ := h2.cells
      clear hcl
      have l2 := h2.lt
      go_wp2_with fail
      go_region_with (go_at_call 75; refine (refWith_any _ _ _ _ x hn _).mono ?_; rintro e w5 ⟨rfl, hb⟩; rw [hu.out]; have h1 := h1.drew.below hb h1.lt; have h2 := h2.drew.below hb h2.lt; have hB := hB.drew.trans (hb.mono hB.size); obtain ⟨f0, f1, f2, f3⟩ := h2.frees; obtain ⟨c50, c51, c52, c53⟩ := h2.cells)
      all_goals
        go_wp2_with fail
        go_roundw
        case rel =>
          refine ⟨k + 1, by omega, by go_num, ((((h1.other _ (by (try dsimp only); omega) _).other _ (by (try dsimp only); omega) _).other _ (by (try dsimp only); omega) _).other _ (by (try dsimp only); omega) _), ?_, Blk.belowStore ⟨u0, u1, u2, u3⟩ hB (by omega)⟩
          rw [addTo, ht.out, hx, hu.out]
          exact h2.store ⟨u0, u1, u2, u3⟩
        case measure => simp [intOf]; omega
    · obtain rfl : k = len := by omega
      obtain ⟨c0, c1, c2, c3⟩ := h2.cells
      obtain ⟨d0, d1, d2, d3⟩ := h1.cells
      obtain ⟨f0, f1, f2, f3⟩ := h1.frees
      go_wp2_with fail
      exact bodyPost_ret ((h1.store (addTo .empty f k)).results rfl _ rfl) rfl ⟨rfl, Blk.belowStore _ hB (Nat.le_refl _)⟩
/-- The slice holds the sets f 0, .., f (len - 1). -/
def SetsIn (w : World) (p : Option Addr) (len : Nat) (f : Nat → WSet) : Prop := ∀ j, j < len → ∃ b off : Nat, p = some ⟨b, off, none⟩ ∧ b < w.heap.size ∧ ∀ i, i < 4 → w.cell? ⟨b, off + j * 4 + i, none⟩ = some (.int .u64 (((f j).w i).toNat : Int))
set_option maxHeartbeats 2000000 in
theorem refUnion_any (p : Option Addr) (len cap : Nat) (f : Nat → WSet) (hlen : len ≤ maxLen) (w : World) (hc : SetsIn w p len f) :
    Calls Tryd.prog 45 #[.slice p len cap] w fun e w' => e = .returned (orTo .empty f len).v ∧ Below w.heap.size w w' := by
  unfold maxLen at hlen
  have HC : Hid (SetsIn w p len f) := hc
  clear hc
  go_enter Tryd.func45, Tryd.ntmps45
  go_wp2_with fail
  obtain ⟨O, hO⟩ : ∃ O, w.heap.size + 1 = O := ⟨_, rfl⟩
  rw [hO]
  go_loopw [4] (fun i wr => ∃ k : Nat, k ≤ len ∧ i = .int .i64 k ∧ Blk wr w.heap.size .empty ∧ Blk wr O (orTo .empty f k) ∧ Below w.heap.size w wr)
    (fun i _ => len - (intOf i).toNat)
  case atStart =>
    refine ⟨0, Nat.zero_le _, rfl, (Blk.new0 w).alloc _, ?_, ?_⟩
    · have := Blk.new0 (w.alloc (.cells #[.int .u64 0, .int .u64 0, .int .u64 0, .int .u64 0] 38))
      rw [World.size_alloc, hO] at this
      exact this
    · go_grown
  case round =>
    obtain ⟨k, hk, rfl, h1, h2, hB⟩ := hrel
    by_cases hlt : k < len
    · obtain ⟨b, off, rfl, hbw, hcl⟩ := HC.out k hlt
      have e0 := (hB.cell (p := ⟨b, off + k * 4 + 0, none⟩) hbw).trans (hcl 0 (by omega))
      rw [Nat.add_zero] at e0
      have e1 := (hB.cell (p := ⟨b, off + k * 4 + 1, none⟩) hbw).trans (hcl 1 (by omega))
      have e2 := (hB.cell (p := ⟨b, off + k * 4 + 2, none⟩) hbw).trans (hcl 2 (by omega))
      have e3 := (hB.cell (p := ⟨b, off + k * 4 + 3, none⟩) hbw).trans (hcl 3 (by omega))
      clear hcl
      obtain ⟨c0, c1, c2, c3⟩ := h2.cells
      obtain ⟨f0, f1, f2, f3⟩ := h2.frees
      have l2 := h2.lt
      have hne : b ≠ O := by omega
      go_wp2_with fail
      refine wp_loop_rounds 5 ?_
      rw [rounds_succ]; go_wp2_with fail; go_region; go_wp2_with fail
      rw [rounds_succ]; go_wp2_with fail; go_region; go_wp2_with fail
      rw [rounds_succ]; go_wp2_with fail; go_region; go_wp2_with fail
      rw [rounds_succ]; go_wp2_with fail; go_region; go_wp2_with fail
      rw [rounds_succ]; go_wp2_with fail
      go_roundw
      case rel =>
        rw [bits_or, bits_or, bits_or, bits_or]
        refine ⟨k + 1, by omega, by go_num, ?_, ?_, ?_⟩
        · exact (((h1.other _ (by (try dsimp only); omega) _).other _ (by (try dsimp only); omega) _).other _ (by (try dsimp only); omega) _).other _ (by (try dsimp only); omega) _
        · exact h2.store (orTo .empty f (k + 1))
        · exact Blk.belowStore (orTo .empty f (k + 1)) hB.drew.drew.drew.drew (by omega)
      case measure => simp [intOf]; omega
    · obtain rfl : k = len := by omega
      obtain ⟨c0, c1, c2, c3⟩ := h2.cells
      obtain ⟨d0, d1, d2, d3⟩ := h1.cells
      obtain ⟨f0, f1, f2, f3⟩ := h1.frees
      go_wp2_with fail
      exact bodyPost_ret ((h1.store (orTo .empty f k)).results rfl _ rfl) rfl ⟨rfl, Blk.belowStore _ hB (Nat.le_refl _)⟩
theorem sets2 {W : World} {B : Nat} {fr : Nat × Nat} (x0 x1 x2 x3 y0 y1 y2 y3 : BitVec 64) (hk : W.heap[B]? = some (.cells #[.int .u64 x0.toNat, .int .u64 x1.toNat, .int .u64 x2.toNat, .int .u64 x3.toNat, .int .u64 y0.toNat, .int .u64 y1.toNat, .int .u64 y2.toNat, .int .u64 y3.toNat] 38 fr)) :
    SetsAt W B 0 2 (pairF (WSet.mk x0 x1 x2 x3) (WSet.mk y0 y1 y2 y3)) := by
  intro j hj i hi
  rw [cell_of_row _ _ _ _ _ _ hk]
  match j, hj, i, hi with
  | 0, _, 0, _ => rfl
  | 0, _, 1, _ => rfl
  | 0, _, 2, _ => rfl
  | 0, _, 3, _ => rfl
  | 1, _, 0, _ => rfl
  | 1, _, 1, _ => rfl
  | 1, _, 2, _ => rfl
  | 1, _, 3, _ => rfl
theorem refUnion2_at (x0 x1 x2 x3 y0 y1 y2 y3 : BitVec 64) (W : World) (B : Nat) (fr : Nat × Nat) (hk : W.heap[B]? = some (.cells #[.int .u64 x0.toNat, .int .u64 x1.toNat, .int .u64 x2.toNat, .int .u64 x3.toNat, .int .u64 y0.toNat, .int .u64 y1.toNat, .int .u64 y2.toNat, .int .u64 y3.toNat] 38 fr)) :
    Calls Tryd.prog 45 #[.slice (some ⟨B, 0, none⟩) 2 2] W fun e w' => e = .returned ((WSet.mk x0 x1 x2 x3).or (WSet.mk y0 y1 y2 y3)).v ∧ Below W.heap.size W w' := by
  refine (refUnion_any (some ⟨B, 0, none⟩) 2 2 (pairF (WSet.mk x0 x1 x2 x3) (WSet.mk y0 y1 y2 y3)) (by unfold maxLen; omega) _ ?_).mono ?_
  · intro j hj
    exact ⟨B, 0, rfl, lt_of_block hk, fun i hi => sets2 _ _ _ _ _ _ _ _ hk j hj i hi⟩
  · rintro e w' ⟨rfl, hb⟩
    exact ⟨by rw [orTo_pair], hb⟩
theorem Blk.store4 {w : World} {B : Nat} {s0 : WSet} (h : Blk w B s0) (a b c d : BitVec 64) : Blk ((((w.setCell ⟨B, 0, none⟩ (.int .u64 (a.toNat : Int))).setCell ⟨B, 1, none⟩ (.int .u64 (b.toNat : Int))).setCell ⟨B, 2, none⟩ (.int .u64 (c.toNat : Int))).setCell ⟨B, 3, none⟩ (.int .u64 (d.toNat : Int))) B ⟨a, b, c, d⟩ := h.store ⟨a, b, c, d⟩
theorem Blk.below4 {w wr : World} {B n : Nat} (a b c d : BitVec 64) (hB : Below n w wr) (h : n ≤ B) : Below n w ((((wr.setCell ⟨B, 0, none⟩ (.int .u64 (a.toNat : Int))).setCell ⟨B, 1, none⟩ (.int .u64 (b.toNat : Int))).setCell ⟨B, 2, none⟩ (.int .u64 (c.toNat : Int))).setCell ⟨B, 3, none⟩ (.int .u64 (d.toNat : Int))) := Blk.belowStore ⟨a, b, c, d⟩ hB h
theorem Blk.cells4 {w : World} {B : Nat} {a b c d : BitVec 64} (h : Blk w B ⟨a, b, c, d⟩) : w.cell? ⟨B, 0, none⟩ = some (.int .u64 (a.toNat : Int)) ∧ w.cell? ⟨B, 1, none⟩ = some (.int .u64 (b.toNat : Int)) ∧ w.cell? ⟨B, 2, none⟩ = some (.int .u64 (c.toNat : Int)) ∧ w.cell? ⟨B, 3, none⟩ = some (.int .u64 (d.toNat : Int)) := h.cells
end Go.Proofs.YtjinedeelkdgiaaDoor
