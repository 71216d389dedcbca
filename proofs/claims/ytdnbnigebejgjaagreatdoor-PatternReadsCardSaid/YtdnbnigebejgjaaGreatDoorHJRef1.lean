/-
  The reference's Of and with (stage 1), for every slice of bytes.
-/
import Derived.Test.YtdnbnigebejgjaaGreatDoorHJT6
import Derived.IntWalk
namespace Go.Proofs.YtdnbnigebejgjaaGreatDoor
open Go.RowKit
attribute [local go_sem] w_0 w_1 w_2 w_3
set_option maxHeartbeats 400000 in
theorem refWith_any (a b c d : BitVec 64) (n : Nat) (hn : n < 256) (w : World) :
    Calls Tryz.prog 70 #[.agg #[.int .u64 a.toNat, .int .u64 b.toNat, .int .u64 c.toNat, .int .u64 d.toNat], .int .u8 (n : Int)] w fun e w' => e = .returned ((WSet.mk a b c d).add n).v ∧ Below w.heap.size w w' := by
  go_enter Tryz.func70, Tryz.ntmps70
  go_upto_region 1 with fail
  have h1 := (Blk.new w ⟨a, b, c, d⟩).alloc (.cells #[.int .u64 0, .int .u64 0, .int .u64 0, .int .u64 0] 41)
  have h2 := Blk.new0 (w.alloc (.cells #[.int .u64 a.toNat, .int .u64 b.toNat, .int .u64 c.toNat, .int .u64 d.toNat] 41))
  rw [World.size_alloc] at h2
  have hB : Below w.heap.size w ((w.alloc (.cells #[.int .u64 a.toNat, .int .u64 b.toNat, .int .u64 c.toNat, .int .u64 d.toNat] 41)).alloc (.cells #[.int .u64 0, .int .u64 0, .int .u64 0, .int .u64 0] 41)) := by go_grown
  obtain ⟨W, hW⟩ : ∃ W, (w.alloc (.cells #[.int .u64 a.toNat, .int .u64 b.toNat, .int .u64 c.toNat, .int .u64 d.toNat] 41)).alloc (.cells #[.int .u64 0, .int .u64 0, .int .u64 0, .int .u64 0] 41) = W := ⟨_, rfl⟩
  rw [hW] at h1 h2 hB ⊢
  clear hW
  go_cut [5] (fun p wx => p = .int .u8 (n : Int) ∧ Blk wx w.heap.size ((WSet.mk a b c d).add n) ∧ Blk wx (w.heap.size + 1) .empty ∧ Below w.heap.size w wx)
  case first =>
    have hw := h1.cell (n / 64) (by omega)
    have hf := h1.free (n / 64)
    go_wp2_with fail
    go_meet
    refine ⟨rfl, ?_, h2.other _ (by simp) _, hB.setCell (by simp) _⟩
    rw [add_word _ _ _ rfl]; exact h1.set _ (by omega) _
  case rest =>
  obtain ⟨rfl, h1, h2, hB⟩ := hcut
  obtain ⟨c0, c1, c2, c3⟩ := h1.cells
  obtain ⟨d0, d1, d2, d3⟩ := h2.cells
  obtain ⟨f0, f1, f2, f3⟩ := h2.frees
  go_wp2_with fail
  exact bodyPost_ret ((h2.store ((WSet.mk a b c d).add n)).results rfl _ rfl) rfl ⟨rfl, Blk.belowStore _ hB (by omega)⟩
/-- The slice holds the bytes f 0, .., f (len - 1). -/
def BytesIn (w : World) (p : Option Addr) (len : Nat) (f : Nat → Nat) : Prop := ∀ j, j < len → f j < 256 ∧ ∃ b off : Nat, p = some ⟨b, off, none⟩ ∧ b < w.heap.size ∧ w.cell? ⟨b, off + j, none⟩ = some (.int .u8 (f j : Int))
set_option maxHeartbeats 1000000 in
theorem refOf_any (p : Option Addr) (len cap : Nat) (f : Nat → Nat) (hlen : len ≤ maxLen) (w : World) (hc : BytesIn w p len f) :
    Calls Tryz.prog 50 #[.slice p len cap] w fun e w' => e = .returned (addTo .empty f len).v ∧ Below w.heap.size w w' := by
  unfold maxLen at hlen
  have HC : Hid (BytesIn w p len f) := hc
  clear hc
  go_enter Tryz.func50, Tryz.ntmps50
  go_wp2_with fail
  go_loopw [4] (fun i wr => ∃ k : Nat, k ≤ len ∧ i = .int .i64 k ∧ Blk wr w.heap.size .empty ∧ Blk wr (w.heap.size + 1) (addTo .empty f k) ∧ Below w.heap.size w wr)
    (fun i _ => len - (intOf i).toNat)
  case atStart =>
    refine ⟨0, Nat.zero_le _, rfl, (Blk.new0 w).alloc _, ?_, ?_⟩
    · have := Blk.new0 (w.alloc (.cells #[.int .u64 0, .int .u64 0, .int .u64 0, .int .u64 0] 41))
      rw [World.size_alloc] at this
      exact this
    · go_grown
  case round =>
    obtain ⟨k, hk, rfl, h1, h2, hB⟩ := hrel
    by_cases hlt : k < len
    · obtain ⟨hn, b, off, rfl, hbw, hcl⟩ := HC.out k hlt
      have hcell : wr.cell? ⟨b, off + k, none⟩ = some (.int .u8 (f k : Int)) := (hB.cell (p := ⟨b, off + k, none⟩) hbw).trans hcl
      obtain ⟨t0, t1, t2, t3, ht⟩ : ∃ t0 t1 t2 t3, Hid (addTo .empty f k = ⟨t0, t1, t2, t3⟩) := ⟨_, _, _, _, Lib.hid rfl⟩
      rw [ht.out] at h2
      obtain ⟨u0, u1, u2, u3, hu⟩ : ∃ u0 u1 u2 u3, Hid ((WSet.mk t0 t1 t2 t3).add (f k) = ⟨u0, u1, u2, u3⟩) := ⟨_, _, _, _, Lib.hid rfl⟩
      obtain ⟨x, hx⟩ : ∃ x, f k = x := ⟨_, rfl⟩
      rw [hx] at hcell hu hn
      obtain ⟨c0, c1, c2, c3⟩ := h2.cells
      clear hcl
      have l2 := h2.lt
      go_wp2_with fail
      go_region_with (go_at_call 70; refine (refWith_any _ _ _ _ x hn _).mono ?_; rintro e w5 ⟨rfl, hb⟩; rw [hu.out]; have h1 := h1.drew.below hb h1.lt; have h2 := h2.drew.below hb h2.lt; have hB := hB.drew.trans (hb.mono hB.size); obtain ⟨f0, f1, f2, f3⟩ := h2.frees; obtain ⟨c50, c51, c52, c53⟩ := h2.cells)
      all_goals
        go_wp2_with fail
        go_roundw
        case rel =>
          refine ⟨k + 1, by omega, by go_num, ((((h1.other _ (by (try dsimp only); omega) _).other _ (by (try dsimp only); omega) _).other _ (by (try dsimp only); omega) _).other _ (by (try dsimp only); omega) _), ?_, Blk.belowStore ⟨u0, u1, u2, u3⟩ hB (by omega)⟩
          rw [addTo, ht.out, hx, hu.out]
          exact h2.store ⟨u0, u1, u2, u3⟩
        case measure => simp [intOf]; omega
    · obtain rfl : k = len := by omega
      obtain ⟨c0, c1, c2, c3⟩ := h2.cells
      obtain ⟨d0, d1, d2, d3⟩ := h1.cells
      obtain ⟨f0, f1, f2, f3⟩ := h1.frees
      go_wp2_with fail
      exact bodyPost_ret ((h1.store (addTo .empty f k)).results rfl _ rfl) rfl ⟨rfl, Blk.belowStore _ hB (Nat.le_refl _)⟩
end Go.Proofs.YtdnbnigebejgjaaGreatDoor
