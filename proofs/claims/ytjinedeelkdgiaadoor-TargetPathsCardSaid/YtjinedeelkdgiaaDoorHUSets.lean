/-
  What byteset.Has, Not, Of, Union, Common and span return, for all arguments (slices that are not nil, within Go's reach), and that nothing that lay in memory has turned.
-/
import Derived.Test.YtjinedeelkdgiaaDoorHBits
namespace Go.Proofs.YtjinedeelkdgiaaDoor
open Go.RowKit
set_option maxHeartbeats 400000 in
theorem has_any (a b c d : BitVec 64) (n : Int) (h0 : 0 ≤ n) (hn : n < 256) (w : World) :
    Calls Tryd.prog 48 #[.agg #[.int .u64 a.toNat, .int .u64 b.toNat, .int .u64 c.toNat, .int .u64 d.toNat], .int .u8 n] w fun e w' => e = .returned (.bool ((WSet.mk a b c d).has n.toNat)) ∧ Below w.heap.size w w' := by
  obtain ⟨n, rfl⟩ := Int.eq_ofNat_of_zero_le h0
  have hx := idx4 a b c d (n / 64) (by omega)
  go_enter Tryd.func48, Tryd.ntmps48
  go_wp2
  go_ret
  refine ⟨?_, by go_grown⟩
  simp [has_bit, WSet.has]
def WSet.not (s : WSet) : WSet := ⟨~~~s.a, ~~~s.b, ~~~s.c, ~~~s.d⟩
set_option maxHeartbeats 400000 in
theorem not_any (a b c d : BitVec 64) (w : World) :
    Calls Tryd.prog 77 #[.agg #[.int .u64 a.toNat, .int .u64 b.toNat, .int .u64 c.toNat, .int .u64 d.toNat]] w fun e w' => e = .returned (WSet.mk a b c d).not.v ∧ Below w.heap.size w w' := by
  have hs : IntKind.u64.signed = false := rfl
  have hm : IntKind.u64.max = 18446744073709551615 := rfl
  go_enter Tryd.func77, Tryd.ntmps77
  go_wp2
  go_rounds 6
  refine bodyPost_ret (v := (WSet.mk a b c d).not.v) (by simp [results, Tryd.results77, go_sem, bits_not, WSet.not]) rfl ⟨rfl, ?_⟩
  go_grown
/-- The bytes f 0, .., f (k - 1) more. -/
def addTo (s : WSet) (f : Nat → Nat) : Nat → WSet
  | 0 => s
  | k + 1 => (addTo s f k).add (f k)
set_option maxHeartbeats 400000 in
theorem of_any (b off len cap : Nat) (f : Nat → Nat) (hb : ∀ j, j < len → f j < 256) (hlen : len ≤ maxLen) (w : World) (hbw : b < w.heap.size) (hc : ∀ j, j < len → w.cell? ⟨b, off + j, none⟩ = some (.int .u8 (f j : Int))) :
    Calls Tryd.prog 78 #[.slice (some ⟨b, off, none⟩) len cap] w fun e w' => e = .returned (addTo .empty f len).v ∧ Below w.heap.size w w' := by
  unfold maxLen at hlen
  have HC : Hid (∀ j, j < len → w.cell? ⟨b, off + j, none⟩ = some (.int .u8 (f j : Int))) := hc
  have HB : Hid (∀ j, j < len → f j < 256) := hb
  clear hc hb
  go_enter Tryd.func78, Tryd.ntmps78
  go_wp2
  go_loopw [8] (fun i wr => ∃ k : Nat, k ≤ len ∧ i = .int .i64 k ∧ Blk wr w.heap.size .empty ∧ Blk wr (w.heap.size + 1) (addTo .empty f k) ∧ Below w.heap.size w wr)
    (fun i _ => len - (intOf i).toNat)
  case atStart =>
    refine ⟨0, Nat.zero_le _, rfl, (Blk.new0 w).alloc _, ?_, ?_⟩
    · have := Blk.new0 (w.alloc (.cells #[.int .u64 0, .int .u64 0, .int .u64 0, .int .u64 0] 38))
      rw [World.size_alloc] at this
      exact this
    · go_grown
  case round =>
    obtain ⟨k, hk, rfl, h1, h2, hB⟩ := hrel
    by_cases hlt : k < len
    · have hn := HB.out k hlt
      have hcell : wr.cell? ⟨b, off + k, none⟩ = some (.int .u8 (f k : Int)) := (hB.cell (p := ⟨b, off + k, none⟩) hbw).trans (HC.out k hlt)
      have hw := h2.cell (f k / 64) (by omega)
      have hf := h2.free (f k / 64)
      go_wp2
      go_roundw
      case rel =>
        refine ⟨k + 1, by omega, by go_num, ?_, ?_, ?_⟩
        · exact h1.other _ (by simp) _
        · rw [add_word _ _ _ rfl]; exact h2.set _ (by omega) _
        · exact hB.setCell (by simp) _
      case measure => simp [intOf]; omega
    · obtain rfl : k = len := by omega
      obtain ⟨c0, c1, c2, c3⟩ := h2.cells
      obtain ⟨d0, d1, d2, d3⟩ := h1.cells
      obtain ⟨f0, f1, f2, f3⟩ := h1.frees
      go_wp2
      exact bodyPost_ret ((h1.store (addTo .empty f k)).results rfl _ rfl) rfl ⟨rfl, Blk.belowStore _ hB (Nat.le_refl _)⟩
def WSet.or (s t : WSet) : WSet := ⟨s.a ||| t.a, s.b ||| t.b, s.c ||| t.c, s.d ||| t.d⟩
def orTo (s : WSet) (f : Nat → WSet) : Nat → WSet
  | 0 => s
  | k + 1 => (orTo s f k).or (f k)
/-- The slice's memory holds the sets f 0, .., f (len - 1). -/
def SetsAt (w : World) (b off len : Nat) (f : Nat → WSet) : Prop := ∀ j, j < len → ∀ i, i < 4 → w.cell? ⟨b, off + j * 4 + i, none⟩ = some (.int .u64 (((f j).w i).toNat : Int))
set_option maxHeartbeats 1000000 in
theorem union_any (b off len cap : Nat) (f : Nat → WSet) (hlen : len ≤ maxLen) (w : World) (hbw : b < w.heap.size) (hc : SetsAt w b off len f) :
    Calls Tryd.prog 73 #[.slice (some ⟨b, off, none⟩) len cap] w fun e w' => e = .returned (orTo .empty f len).v ∧ Below w.heap.size w w' := by
  unfold maxLen at hlen
  go_enter Tryd.func73, Tryd.ntmps73
  go_wp2
  go_loopw [9] (fun i wr => ∃ k : Nat, k ≤ len ∧ i = .int .i64 k ∧ Blk wr w.heap.size .empty ∧ Blk wr (w.heap.size + 1) (orTo .empty f k) ∧ Below w.heap.size w wr)
    (fun i _ => len - (intOf i).toNat)
  case atStart =>
    refine ⟨0, Nat.zero_le _, rfl, (Blk.new0 w).alloc _, ?_, ?_⟩
    · have := Blk.new0 (w.alloc (.cells #[.int .u64 0, .int .u64 0, .int .u64 0, .int .u64 0] 38))
      rw [World.size_alloc] at this
      exact this
    · go_grown
  case round =>
    obtain ⟨k, hk, rfl, h1, h2, hB⟩ := hrel
    by_cases hlt : k < len
    · have e0 := (hB.cell (p := ⟨b, off + k * 4 + 0, none⟩) hbw).trans (hc k hlt 0 (by omega))
      rw [Nat.add_zero] at e0
      have e1 := (hB.cell (p := ⟨b, off + k * 4 + 1, none⟩) hbw).trans (hc k hlt 1 (by omega))
      have e2 := (hB.cell (p := ⟨b, off + k * 4 + 2, none⟩) hbw).trans (hc k hlt 2 (by omega))
      have e3 := (hB.cell (p := ⟨b, off + k * 4 + 3, none⟩) hbw).trans (hc k hlt 3 (by omega))
      obtain ⟨c0, c1, c2, c3⟩ := h2.cells
      obtain ⟨f0, f1, f2, f3⟩ := h2.frees
      have l2 := h2.lt
      go_wp2
      refine wp_loop_rounds 5 ?_
      rw [rounds_succ]; go_wp2; go_region; go_wp2
      rw [rounds_succ]; go_wp2; go_region; go_wp2
      rw [rounds_succ]; go_wp2; go_region; go_wp2
      rw [rounds_succ]; go_wp2; go_region; go_wp2
      rw [rounds_succ]; go_wp2
      go_roundw
      case rel =>
        rw [bits_or, bits_or, bits_or, bits_or]
        refine ⟨k + 1, by omega, by go_num, ?_, ?_, ?_⟩
        · exact (((((h1.other _ (by simp) _).other _ (by simp) _).other _ (by simp) _).other _ (by simp) _).alloc _)
        · exact (h2.store (orTo .empty f (k + 1))).alloc _
        · exact (((((((hB.setCell (by simp) _).setCell (by simp) _).setCell (by simp) _).setCell (by simp) _).alloc (by simp; omega) _).drew).drew).drew.drew
      case measure => simp [intOf]; omega
    · obtain rfl : k = len := by omega
      obtain ⟨c0, c1, c2, c3⟩ := h2.cells
      obtain ⟨d0, d1, d2, d3⟩ := h1.cells
      obtain ⟨f0, f1, f2, f3⟩ := h1.frees
      go_wp2
      exact bodyPost_ret ((h1.store (orTo .empty f k)).results rfl _ rfl) rfl ⟨rfl, Blk.belowStore _ hB (Nat.le_refl _)⟩
def WSet.and (s t : WSet) : WSet := ⟨s.a &&& t.a, s.b &&& t.b, s.c &&& t.c, s.d &&& t.d⟩
def andTo (s : WSet) (f : Nat → WSet) : Nat → WSet
  | 0 => s
  | k + 1 => (andTo s f k).and (f k)
set_option maxHeartbeats 1000000 in
theorem common_any (b off len cap : Nat) (f : Nat → WSet) (hlen : len ≤ maxLen) (w : World) (hbw : b < w.heap.size) (hc : SetsAt w b off len f) :
    Calls Tryd.prog 76 #[.slice (some ⟨b, off, none⟩) len cap] w fun e w' => e = .returned (andTo WSet.empty.not f len).v ∧ Below w.heap.size w w' := by
  unfold maxLen at hlen
  go_enter Tryd.func76, Tryd.ntmps76
  go_wp2_with fail
  refine (not_any 0 0 0 0 _).mono ?_
  rintro e w1 ⟨rfl, hB1⟩
  have hz : w.heap.size < w1.heap.size := by have := hB1.size; simp at this; omega
  have b0 : Blk w1 w.heap.size .empty := (Blk.new0 w).below hB1 (by simp)
  have hB2 : Below w.heap.size w w1 := ((Below.refl _ w).alloc (Nat.le_refl _) _).trans (hB1.mono (by simp))
  clear hB1
  go_wp2
  go_loopw [11] (fun i wr => ∃ k : Nat, k ≤ len ∧ i = .int .i64 k ∧ Blk wr w.heap.size .empty ∧ Blk wr w1.heap.size (andTo WSet.empty.not f k) ∧ Below w.heap.size w wr)
    (fun i _ => len - (intOf i).toNat)
  case atStart =>
    exact ⟨0, Nat.zero_le _, rfl, b0.alloc _, Blk.new w1 WSet.empty.not, hB2.alloc (by omega) _⟩
  case round =>
    obtain ⟨k, hk, rfl, h1, h2, hB⟩ := hrel
    by_cases hlt : k < len
    · have e0 := (hB.cell (p := ⟨b, off + k * 4 + 0, none⟩) hbw).trans (hc k hlt 0 (by omega))
      rw [Nat.add_zero] at e0
      have e1 := (hB.cell (p := ⟨b, off + k * 4 + 1, none⟩) hbw).trans (hc k hlt 1 (by omega))
      have e2 := (hB.cell (p := ⟨b, off + k * 4 + 2, none⟩) hbw).trans (hc k hlt 2 (by omega))
      have e3 := (hB.cell (p := ⟨b, off + k * 4 + 3, none⟩) hbw).trans (hc k hlt 3 (by omega))
      obtain ⟨c0, c1, c2, c3⟩ := h2.cells
      obtain ⟨f0, f1, f2, f3⟩ := h2.frees
      have l2 := h2.lt
      go_wp2
      refine wp_loop_rounds 5 ?_
      rw [rounds_succ]; go_wp2; go_region; go_wp2
      rw [rounds_succ]; go_wp2; go_region; go_wp2
      rw [rounds_succ]; go_wp2; go_region; go_wp2
      rw [rounds_succ]; go_wp2; go_region; go_wp2
      rw [rounds_succ]; go_wp2
      go_roundw
      case rel =>
        rw [bits_and, bits_and, bits_and, bits_and]
        refine ⟨k + 1, by omega, by go_num, ?_, ?_, ?_⟩
        · exact (((((h1.other _ (by simp; omega) _).other _ (by simp; omega) _).other _ (by simp; omega) _).other _ (by simp; omega) _).alloc _)
        · exact (h2.store (andTo WSet.empty.not f (k + 1))).alloc _
        · exact (((((((hB.setCell (by simp; omega) _).setCell (by simp; omega) _).setCell (by simp; omega) _).setCell (by simp; omega) _).alloc (by simp; omega) _).drew).drew).drew.drew
      case measure => simp [intOf]; omega
    · obtain rfl : k = len := by omega
      obtain ⟨c0, c1, c2, c3⟩ := h2.cells
      obtain ⟨d0, d1, d2, d3⟩ := h1.cells
      obtain ⟨f0, f1, f2, f3⟩ := h1.frees
      go_wp2
      exact bodyPost_ret ((h1.store (andTo WSet.empty.not f k)).results rfl _ rfl) rfl ⟨rfl, Blk.belowStore _ hB (Nat.le_refl _)⟩
def spanTo (lo : Nat) (k : Nat) : WSet := addTo .empty (fun j => lo + j) k
set_option maxHeartbeats 1000000 in
theorem span_any (lo hi : Nat) (h1 : lo < 256) (h2 : hi < 256) (w : World) :
    Calls Tryd.prog 74 #[.agg #[.int .u8 lo, .int .u8 hi]] w fun e w' => e = .returned (spanTo lo (hi + 1 - lo)).v ∧ Below w.heap.size w w' := by
  go_enter Tryd.func74, Tryd.ntmps74
  go_wp2
  go_loopw [4] (fun i wr => ∃ k : Nat, k ≤ hi + 1 - lo ∧ i = .int .i64 ((lo + k : Nat) : Int) ∧ wr.cell? ⟨w.heap.size, 1, none⟩ = some (.int .u8 hi) ∧ Blk wr (w.heap.size + 1) .empty ∧ Blk wr (w.heap.size + 1 + 1) (spanTo lo k) ∧ Below w.heap.size w wr)
    (fun i _ => hi + 1 - (intOf i).toNat)
  case atStart =>
    refine ⟨0, Nat.zero_le _, rfl, by go_cell, ?_, ?_, ?_⟩
    · have := (Blk.new0 (w.alloc (.cells #[.int .u8 lo, .int .u8 hi] 73))).alloc (.cells #[.int .u64 0, .int .u64 0, .int .u64 0, .int .u64 0] 38)
      simpa only [World.size_alloc] using this
    · have := Blk.new0 ((w.alloc (.cells #[.int .u8 lo, .int .u8 hi] 73)).alloc (.cells #[.int .u64 0, .int .u64 0, .int .u64 0, .int .u64 0] 38))
      rw [World.size_alloc, World.size_alloc] at this
      exact this
    · go_grown
  case round =>
    obtain ⟨k, hk, rfl, hr, b1, b2, hB⟩ := hrel
    by_cases hlt : lo + k ≤ hi
    · have hw := b2.cell ((lo + k) / 64) (by omega)
      have hf := b2.free ((lo + k) / 64)
      go_wp2
      go_region
      go_wp2
      go_roundw
      case rel =>
        refine ⟨k + 1, by omega, by go_num, ?_, ?_, ?_, ?_⟩
        · go_cell
        · exact b1.other _ (by simp) _
        · rw [add_word _ _ _ rfl]; exact b2.set _ (by omega) _
        · exact (hB.setCell (by simp; omega) _).drew
      case measure => simp [intOf]; omega
    · obtain rfl : k = hi + 1 - lo := by omega
      obtain ⟨c0, c1, c2, c3⟩ := b2.cells
      obtain ⟨d0, d1, d2, d3⟩ := b1.cells
      obtain ⟨f0, f1, f2, f3⟩ := b1.frees
      go_wp2
      exact bodyPost_ret ((b1.store (spanTo lo (hi + 1 - lo))).results rfl _ rfl) rfl ⟨rfl, Blk.belowStore _ hB (by omega)⟩
end Go.Proofs.YtjinedeelkdgiaaDoor
