/-
  The reference's Of, Union, Common and Ranges for all slices (nil ones, too): they return what the program's functions return.
-/
import Derived.Test.YtbpnhiejmkeclaaDoorRefOnes
import Derived.Test.YtbpnhiejmkeclaaDoorRanges
import Derived.IntWalk
namespace Go.Proofs.YtbpnhiejmkeclaaDoor
open Go.RowKit
attribute [local go_sem] w_0 w_1 w_2 w_3
/-- The slice holds the bytes f 0, .., f (len - 1). -/
def BytesIn (w : World) (p : Option Addr) (len : Nat) (f : Nat → Nat) : Prop := ∀ j, j < len → f j < 256 ∧ ∃ b off : Nat, p = some ⟨b, off, none⟩ ∧ b < w.heap.size ∧ w.cell? ⟨b, off + j, none⟩ = some (.int .u8 (f j : Int))
set_option maxHeartbeats 1000000 in
theorem refOf_any (p : Option Addr) (len cap : Nat) (f : Nat → Nat) (hlen : len ≤ maxLen) (w : World) (hc : BytesIn w p len f) :
    Calls Tryd.prog 26 #[.slice p len cap] w fun e w' => e = .returned (addTo .empty f len).v ∧ Below w.heap.size w w' := by
  unfold maxLen at hlen
  have HC : Hid (BytesIn w p len f) := hc
  clear hc
  go_enter Tryd.func26, Tryd.ntmps26
  go_wp2_with fail
  go_loopw [4] (fun i wr => ∃ k : Nat, k ≤ len ∧ i = .int .i64 k ∧ Blk wr w.heap.size .empty ∧ Blk wr (w.heap.size + 1) (addTo .empty f k) ∧ Below w.heap.size w wr)
    (fun i _ => len - (intOf i).toNat)
  case atStart =>
    refine ⟨0, Nat.zero_le _, rfl, (Blk.new0 w).alloc _, ?_, ?_⟩
    · have := Blk.new0 (w.alloc (.cells #[.int .u64 0, .int .u64 0, .int .u64 0, .int .u64 0] 24))
      rw [World.size_alloc] at this
      exact this
    · go_grown
  case round =>
    obtain ⟨k, hk, rfl, h1, h2, hB⟩ := hrel
    by_cases hlt : k < len
    · obtain ⟨hn, b, off, rfl, hbw, hcl⟩ := HC.out k hlt
      have hcell : wr.cell? ⟨b, off + k, none⟩ = some (.int .u8 (f k : Int)) := (hB.cell (p := ⟨b, off + k, none⟩) hbw).trans hcl
      obtain ⟨t0, t1, t2, t3, ht⟩ : ∃ t0 t1 t2 t3, Hid (addTo .empty f k = ⟨t0, t1, t2, t3⟩) := ⟨_, _, _, _, Lib.hid rfl⟩
      rw [ht.out] at h2
      obtain ⟨u0, u1, u2, u3, hu⟩ : ∃ u0 u1 u2 u3, Hid ((WSet.mk t0 t1 t2 t3).add (f k) = ⟨u0, u1, u2, u3⟩) := ⟨_, _, _, _, Lib.hid rfl⟩
      obtain ⟨x, hx⟩ : ∃ x, f k = x := ⟨_, rfl⟩
      rw [hx] at hcell hu hn
      obtain ⟨c0, c1, c2, c3⟩ := h2.cells
      clear hcl
      have l2 := h2.lt
      go_wp2_with fail
      go_region_with (go_at_call 41; refine (refWith_any _ _ _ _ x hn _).mono ?_; rintro e w5 ⟨rfl, hb⟩; rw [hu.out]; have h1 := h1.drew.below hb h1.lt; have h2 := h2.drew.below hb h2.lt; have hB := hB.drew.trans (hb.mono hB.size); obtain ⟨f0, f1, f2, f3⟩ := h2.frees; obtain ⟨c50, c51, c52, c53⟩ := h2.cells)
      all_goals
        go_wp2_with fail
        go_roundw
        case rel =>
          refine ⟨k + 1, by omega, by go_num, ((((h1.other _ (by (try dsimp only); omega) _).other _ (by (try dsimp only); omega) _).other _ (by (try dsimp only); omega) _).other _ (by (try dsimp only); omega) _), ?_, Blk.belowStore ⟨u0, u1, u2, u3⟩ hB (by omega)⟩
          rw [addTo, ht.out, hx, hu.out]
          exact h2.store ⟨u0, u1, u2, u3⟩
        case measure => simp [intOf]; omega
    · obtain rfl : k = len := by omega
      obtain ⟨c0, c1, c2, c3⟩ := h2.cells
      obtain ⟨d0, d1, d2, d3⟩ := h1.cells
      obtain ⟨f0, f1, f2, f3⟩ := h1.frees
      go_wp2_with fail
      exact bodyPost_ret ((h1.store (addTo .empty f k)).results rfl _ rfl) rfl ⟨rfl, Blk.belowStore _ hB (Nat.le_refl _)⟩
/-- The slice holds the sets f 0, .., f (len - 1). -/
def SetsIn (w : World) (p : Option Addr) (len : Nat) (f : Nat → WSet) : Prop := ∀ j, j < len → ∃ b off : Nat, p = some ⟨b, off, none⟩ ∧ b < w.heap.size ∧ ∀ i, i < 4 → w.cell? ⟨b, off + j * 4 + i, none⟩ = some (.int .u64 (((f j).w i).toNat : Int))
set_option maxHeartbeats 2000000 in
theorem refUnion_any (p : Option Addr) (len cap : Nat) (f : Nat → WSet) (hlen : len ≤ maxLen) (w : World) (hc : SetsIn w p len f) :
    Calls Tryd.prog 28 #[.slice p len cap] w fun e w' => e = .returned (orTo .empty f len).v ∧ Below w.heap.size w w' := by
  unfold maxLen at hlen
  have HC : Hid (SetsIn w p len f) := hc
  clear hc
  go_enter Tryd.func28, Tryd.ntmps28
  go_wp2_with fail
  obtain ⟨O, hO⟩ : ∃ O, w.heap.size + 1 = O := ⟨_, rfl⟩
  rw [hO]
  go_loopw [4] (fun i wr => ∃ k : Nat, k ≤ len ∧ i = .int .i64 k ∧ Blk wr w.heap.size .empty ∧ Blk wr O (orTo .empty f k) ∧ Below w.heap.size w wr)
    (fun i _ => len - (intOf i).toNat)
  case atStart =>
    refine ⟨0, Nat.zero_le _, rfl, (Blk.new0 w).alloc _, ?_, ?_⟩
    · have := Blk.new0 (w.alloc (.cells #[.int .u64 0, .int .u64 0, .int .u64 0, .int .u64 0] 24))
      rw [World.size_alloc, hO] at this
      exact this
    · go_grown
  case round =>
    obtain ⟨k, hk, rfl, h1, h2, hB⟩ := hrel
    by_cases hlt : k < len
    · obtain ⟨b, off, rfl, hbw, hcl⟩ := HC.out k hlt
      have e0 := (hB.cell (p := ⟨b, off + k * 4 + 0, none⟩) hbw).trans (hcl 0 (by omega))
      rw [Nat.add_zero] at e0
      have e1 := (hB.cell (p := ⟨b, off + k * 4 + 1, none⟩) hbw).trans (hcl 1 (by omega))
      have e2 := (hB.cell (p := ⟨b, off + k * 4 + 2, none⟩) hbw).trans (hcl 2 (by omega))
      have e3 := (hB.cell (p := ⟨b, off + k * 4 + 3, none⟩) hbw).trans (hcl 3 (by omega))
      clear hcl
      obtain ⟨c0, c1, c2, c3⟩ := h2.cells
      obtain ⟨f0, f1, f2, f3⟩ := h2.frees
      have l2 := h2.lt
      have hne : b ≠ O := by omega
      go_wp2_with fail
      refine wp_loop_rounds 5 ?_
      rw [rounds_succ]; go_wp2_with fail; go_region; go_wp2_with fail
      rw [rounds_succ]; go_wp2_with fail; go_region; go_wp2_with fail
      rw [rounds_succ]; go_wp2_with fail; go_region; go_wp2_with fail
      rw [rounds_succ]; go_wp2_with fail; go_region; go_wp2_with fail
      rw [rounds_succ]; go_wp2_with fail
      go_roundw
      case rel =>
        rw [bits_or, bits_or, bits_or, bits_or]
        refine ⟨k + 1, by omega, by go_num, ?_, ?_, ?_⟩
        · exact (((h1.other _ (by (try dsimp only); omega) _).other _ (by (try dsimp only); omega) _).other _ (by (try dsimp only); omega) _).other _ (by (try dsimp only); omega) _
        · exact h2.store (orTo .empty f (k + 1))
        · exact Blk.belowStore (orTo .empty f (k + 1)) hB.drew.drew.drew.drew (by omega)
      case measure => simp [intOf]; omega
    · obtain rfl : k = len := by omega
      obtain ⟨c0, c1, c2, c3⟩ := h2.cells
      obtain ⟨d0, d1, d2, d3⟩ := h1.cells
      obtain ⟨f0, f1, f2, f3⟩ := h1.frees
      go_wp2_with fail
      exact bodyPost_ret ((h1.store (orTo .empty f k)).results rfl _ rfl) rfl ⟨rfl, Blk.belowStore _ hB (Nat.le_refl _)⟩
set_option maxHeartbeats 2000000 in
theorem refCommon_any (p : Option Addr) (len cap : Nat) (f : Nat → WSet) (hlen : len ≤ maxLen) (w : World) (hc : SetsIn w p len f) :
    Calls Tryd.prog 30 #[.slice p len cap] w fun e w' => e = .returned (andTo WSet.empty.not f len).v ∧ Below w.heap.size w w' := by
  unfold maxLen at hlen
  have HC : Hid (SetsIn w p len f) := hc
  clear hc
  go_enter Tryd.func30, Tryd.ntmps30
  go_wp2_with fail
  refine (refNot_any 0 0 0 0 _).mono ?_
  rintro e w1 ⟨rfl, hB1⟩
  have hz : w.heap.size < w1.heap.size := by have := hB1.size; simp at this; omega
  have b0 : Blk w1 w.heap.size .empty := (Blk.new0 w).below hB1 (by simp)
  have hB2 : Below w.heap.size w w1 := ((Below.refl _ w).alloc (Nat.le_refl _) _).trans (hB1.mono (by simp))
  clear hB1
  go_wp2_with fail
  go_loopw [4] (fun i wr => ∃ k : Nat, k ≤ len ∧ i = .int .i64 k ∧ Blk wr w.heap.size .empty ∧ Blk wr w1.heap.size (andTo WSet.empty.not f k) ∧ Below w.heap.size w wr)
    (fun i _ => len - (intOf i).toNat)
  case atStart =>
    exact ⟨0, Nat.zero_le _, rfl, b0.alloc _, Blk.new w1 WSet.empty.not, hB2.alloc (by omega) _⟩
  case round =>
    obtain ⟨k, hk, rfl, h1, h2, hB⟩ := hrel
    by_cases hlt : k < len
    · obtain ⟨b, off, rfl, hbw, hcl⟩ := HC.out k hlt
      have e0 := (hB.cell (p := ⟨b, off + k * 4 + 0, none⟩) hbw).trans (hcl 0 (by omega))
      rw [Nat.add_zero] at e0
      have e1 := (hB.cell (p := ⟨b, off + k * 4 + 1, none⟩) hbw).trans (hcl 1 (by omega))
      have e2 := (hB.cell (p := ⟨b, off + k * 4 + 2, none⟩) hbw).trans (hcl 2 (by omega))
      have e3 := (hB.cell (p := ⟨b, off + k * 4 + 3, none⟩) hbw).trans (hcl 3 (by omega))
      clear hcl
      obtain ⟨c0, c1, c2, c3⟩ := h2.cells
      obtain ⟨f0, f1, f2, f3⟩ := h2.frees
      have l2 := h2.lt
      have hne : b ≠ w1.heap.size := by omega
      go_wp2_with fail
      refine wp_loop_rounds 5 ?_
      rw [rounds_succ]; go_wp2_with fail; go_region; go_wp2_with fail
      rw [rounds_succ]; go_wp2_with fail; go_region; go_wp2_with fail
      rw [rounds_succ]; go_wp2_with fail; go_region; go_wp2_with fail
      rw [rounds_succ]; go_wp2_with fail; go_region; go_wp2_with fail
      rw [rounds_succ]; go_wp2_with fail
      go_roundw
      case rel =>
        rw [bits_and, bits_and, bits_and, bits_and]
        refine ⟨k + 1, by omega, by go_num, ?_, ?_, ?_⟩
        · exact (((h1.other _ (by (try dsimp only); omega) _).other _ (by (try dsimp only); omega) _).other _ (by (try dsimp only); omega) _).other _ (by (try dsimp only); omega) _
        · exact h2.store (andTo WSet.empty.not f (k + 1))
        · exact Blk.belowStore (andTo WSet.empty.not f (k + 1)) hB.drew.drew.drew.drew (by omega)
      case measure => simp [intOf]; omega
    · obtain rfl : k = len := by omega
      obtain ⟨c0, c1, c2, c3⟩ := h2.cells
      obtain ⟨d0, d1, d2, d3⟩ := h1.cells
      obtain ⟨f0, f1, f2, f3⟩ := h1.frees
      go_wp2_with fail
      exact bodyPost_ret ((h1.store (andTo WSet.empty.not f k)).results rfl _ rfl) rfl ⟨rfl, Blk.belowStore _ hB (Nat.le_refl _)⟩
end Go.Proofs.YtbpnhiejmkeclaaDoor
