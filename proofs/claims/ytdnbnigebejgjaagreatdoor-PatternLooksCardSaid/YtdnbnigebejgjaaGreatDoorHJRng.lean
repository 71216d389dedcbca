/-
  The reference's Ranges and the program's Ranges for all slices (nil ones, too): they return the same set, or the same error.
-/
import Derived.Test.YtdnbnigebejgjaaGreatDoorHJOwn
import Derived.Test.YtdnbnigebejgjaaGreatDoorHJFacts
namespace Go.Proofs.YtdnbnigebejgjaaGreatDoor
open Go.RowKit
attribute [local go_sem] w_0 w_1 w_2 w_3
/-- The slice holds the ranges from lo 0 to hi 0, .., from lo (len - 1) to hi (len - 1). -/
def RangesIn (w : World) (p : Option Addr) (len : Nat) (lo hi : Nat → Nat) : Prop := ∀ j, j < len → lo j < 256 ∧ hi j < 256 ∧ ∃ b off : Nat, p = some ⟨b, off, none⟩ ∧ b < w.heap.size ∧ w.cell? ⟨b, off + j * 2, none⟩ = some (.int .u8 (lo j : Int)) ∧ w.cell? ⟨b, off + j * 2 + 1, none⟩ = some (.int .u8 (hi j : Int))
/-- Is one of the first n ranges the wrong way round? -/
def badR (lo hi : Nat → Nat) : Nat → Bool
  | 0 => false
  | n + 1 => badR lo hi n || decide (hi n < lo n)
/-- What Ranges answers. -/
def rangesR (lo hi : Nat → Nat) (n : Nat) : Value := if badR lo hi n then .tuple #[WSet.empty.v, .int .i64 8] else .tuple #[(rangesTo lo hi n).v, .int .i64 0]
theorem badR_at {lo hi : Nat → Nat} : ∀ {n k : Nat}, k < n → hi k < lo k → badR lo hi n = true
  | n + 1, k, hk, h => by
    rw [badR]
    by_cases e : k = n
    · subst e; simp [h]
    · rw [badR_at (show k < n by omega) h]; rfl
theorem rangesR_bad {lo hi : Nat → Nat} {n k : Nat} (hk : k < n) (h : hi k < lo k) : rangesR lo hi n = .tuple #[WSet.empty.v, .int .i64 8] := by
  unfold rangesR; rw [badR_at hk h]; rfl
theorem rangesR_good {lo hi : Nat → Nat} {n : Nat} (h : badR lo hi n = false) : rangesR lo hi n = .tuple #[(rangesTo lo hi n).v, .int .i64 0] := by
  unfold rangesR; rw [h]; rfl
theorem badR_step {lo hi : Nat → Nat} {n : Nat} (h : badR lo hi n = false) (h2 : lo n ≤ hi n) : badR lo hi (n + 1) = false := by
  rw [badR, h]; simp; omega
theorem or_add (s t : WSet) (n : Nat) (hn : n < 256) : s.or (t.add n) = (s.or t).add n := by
  refine ext_has fun b hb => ?_
  rw [has_or, has_add _ _ _ hn hb, has_add _ _ _ hn hb, has_or, Bool.or_assoc]
theorem or_empty (s : WSet) : s.or .empty = s := by
  refine ext_has fun b hb => ?_
  rw [has_or, has_empty, Bool.or_false]
theorem or_span_succ (s : WSet) (lo m : Nat) (h : lo + m < 256) : s.or (spanTo lo (m + 1)) = (s.or (spanTo lo m)).add (lo + m) := by
  show s.or ((spanTo lo m).add (lo + m)) = _
  rw [or_add _ _ _ h]
set_option maxHeartbeats 2000000 in
theorem ranges_any (p : Option Addr) (len cap : Nat) (lo hi : Nat → Nat) (hlen : len ≤ maxLen) (w : World) (hc : RangesIn w p len lo hi) :
    Calls Tryz.prog 137 #[.slice p len cap] w fun e w' => e = .returned (rangesR lo hi len) ∧ Below w.heap.size w w' := by
  unfold maxLen at hlen
  have HC := Lib.hid hc
  clear hc
  go_enter Tryz.func137, Tryz.ntmps137
  go_wp2_with fail
  go_loopw [9] (fun i wr => ∃ k : Nat, k ≤ len ∧ i = .int .i64 k ∧ Hid (badR lo hi k = false) ∧ Blk wr w.heap.size .empty ∧ Blk wr (w.heap.size + 1) (rangesTo lo hi k) ∧ Below w.heap.size w wr)
    (fun i _ => len - (intOf i).toNat)
  case atStart =>
    refine ⟨0, Nat.zero_le _, rfl, Lib.hid rfl, (Blk.new0 w).alloc _, ?_, ?_⟩
    · have := Blk.new0 (w.alloc (.cells #[.int .u64 0, .int .u64 0, .int .u64 0, .int .u64 0] 41))
      rw [World.size_alloc] at this
      exact this
    · go_grown
  case round =>
    obtain ⟨k, hk, rfl, hg, h1, h2, hB⟩ := hrel
    by_cases hlt : k < len
    · obtain ⟨hl1, hl2, b, off, rfl, hbw, q0, q1⟩ := HC.out k hlt
      have e0 := (hB.cell (p := ⟨b, off + k * 2, none⟩) hbw).trans q0
      have e1 := (hB.cell (p := ⟨b, off + k * 2 + 1, none⟩) hbw).trans q1
      clear q0 q1
      by_cases hl3 : lo k ≤ hi k
      · have hg2 := Lib.hid (badR_step hg.out hl3)
        have hle : decide ((hi k : Int) < (lo k : Int)) = false := decide_eq_false (by omega)
        obtain ⟨c0, c1, c2, c3⟩ := h2.cells
        obtain ⟨f0, f1, f2, f3⟩ := h2.frees
        have l2 := h2.lt
        go_wp2_with fail
        go_region_with (first
          | (go_at_call 140; refine (span_any (lo k) (hi k) hl1 hl2 _).mono ?_; rintro e w5 ⟨rfl, hb5⟩; have hz5 : wr.heap.size < w5.heap.size := (by have := hb5.size; simp at this; omega); have b5 : Blk w5 (w.heap.size + 1) (rangesTo lo hi k) := Blk.belowAD h2 hb5 (by go_size); obtain ⟨c50, c51, c52, c53⟩ := b5.cells)
          | (go_at_call 43; refine (union2 _ _ _ _ _ _ _ _ _).mono ?_; rintro e w6 ⟨rfl, hb6⟩; have hz6 : w5.heap.size ≤ w6.heap.size := hb6.size; have b6 : Blk w6 (w.heap.size + 1) (rangesTo lo hi k) := Blk.below b5 hb6 (by go_size); obtain ⟨c60, c61, c62, c63⟩ := b6.cells; obtain ⟨f60, f61, f62, f63⟩ := b6.frees))
        all_goals
          go_wp2_with fail
          go_roundw
          case rel =>
            refine ⟨k + 1, by omega, by go_num, hg2, ?_, ?_, ?_⟩
            · have a6 : Blk w6 w.heap.size .empty := Blk.below (Blk.belowAD h1 hb5 (by go_size)) hb6 (by go_size)
              exact (((a6.other _ (by simp) _).other _ (by simp) _).other _ (by simp) _).other _ (by simp) _
            · exact b6.store (rangesTo lo hi (k + 1))
            · exact Blk.belowStore (rangesTo lo hi (k + 1)) ((((hB.alloc (by omega) _).drew).trans (hb5.mono (by go_size))).trans (hb6.mono (by omega))) (by omega)
          case measure => simp [intOf]; omega
      · have hr := Lib.hid (rangesR_bad (n := len) hlt (show hi k < lo k by omega))
        have hle : decide ((hi k : Int) < (lo k : Int)) = true := decide_eq_true (by omega)
        obtain ⟨f0, f1, f2, f3⟩ := h1.frees
        obtain ⟨d0, d1, d2, d3⟩ := h1.cells
        have l1 := h1.lt
        go_wp2_with fail
        exact bodyPost_ret ((h1.store0.alloc (.cells #[.int .u8 (lo k : Int), .int .u8 (hi k : Int)] 129)).results2 rfl _ rfl _ rfl) rfl ⟨by rw [hr.out]; rfl, (Blk.belowStore0 hB (Nat.le_refl _)).alloc (by simp; exact hB.size) _⟩
    · obtain rfl : k = len := by omega
      have hr := Lib.hid (rangesR_good hg.out)
      obtain ⟨c0, c1, c2, c3⟩ := h2.cells
      obtain ⟨d0, d1, d2, d3⟩ := h1.cells
      obtain ⟨f0, f1, f2, f3⟩ := h1.frees
      go_wp2_with fail
      exact bodyPost_ret ((h1.store (rangesTo lo hi k)).results2 rfl _ rfl _ rfl) rfl ⟨by rw [hr.out]; rfl, Blk.belowStore _ hB (Nat.le_refl _)⟩
end Go.Proofs.YtdnbnigebejgjaaGreatDoor
