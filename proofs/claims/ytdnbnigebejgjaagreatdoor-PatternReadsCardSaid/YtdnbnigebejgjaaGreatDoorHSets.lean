/-
  What byteset.Has, Not, Fold, Of, Union, Common and span return, for all arguments (slices that are not nil, within Go's reach), and that nothing that lay in memory has turned.
  What byteset.Ranges returns for ranges none of which ends before it begins, and a union of two sets as Go writes it. Slices that are not nil.
-/
import Derived.Test.YtdnbnigebejgjaaGreatDoorHBits
import Derived.Deep.RegionWith
import Derived.Lib.Hide
namespace Go.Proofs.YtdnbnigebejgjaaGreatDoor
open Go.RowKit
def WSet.not (s : WSet) : WSet := ⟨~~~s.a, ~~~s.b, ~~~s.c, ~~~s.d⟩
set_option maxHeartbeats 400000 in
theorem not_any (a b c d : BitVec 64) (w : World) :
    Calls Tryz.prog 96 #[.agg #[.int .u64 a.toNat, .int .u64 b.toNat, .int .u64 c.toNat, .int .u64 d.toNat]] w fun e w' => e = .returned (WSet.mk a b c d).not.v ∧ Below w.heap.size w w' := by
  have hs : IntKind.u64.signed = false := rfl
  have hm : IntKind.u64.max = 18446744073709551615 := rfl
  go_enter Tryz.func96, Tryz.ntmps96
  go_wp2
  go_rounds 6
  refine bodyPost_ret (v := (WSet.mk a b c d).not.v) (by simp [results, Tryz.results96, go_sem, bits_not, WSet.not]) rfl ⟨rfl, ?_⟩
  go_grown
def WSet.fold (s : WSet) : WSet := { s with b := s.b ||| (foldW s.b ||| foldW s.b <<< 32) }
/-- The bytes f 0, .., f (k - 1) more. -/
def addTo (s : WSet) (f : Nat → Nat) : Nat → WSet
  | 0 => s
  | k + 1 => (addTo s f k).add (f k)
set_option maxHeartbeats 400000 in
theorem of_any (b off len cap : Nat) (f : Nat → Nat) (hb : ∀ j, j < len → f j < 256) (hlen : len ≤ maxLen) (w : World) (hbw : b < w.heap.size) (hc : ∀ j, j < len → w.cell? ⟨b, off + j, none⟩ = some (.int .u8 (f j : Int))) :
    Calls Tryz.prog 121 #[.slice (some ⟨b, off, none⟩) len cap] w fun e w' => e = .returned (addTo .empty f len).v ∧ Below w.heap.size w w' := by
  unfold maxLen at hlen
  have HC : Hid (∀ j, j < len → w.cell? ⟨b, off + j, none⟩ = some (.int .u8 (f j : Int))) := hc
  have HB : Hid (∀ j, j < len → f j < 256) := hb
  clear hc hb
  go_enter Tryz.func121, Tryz.ntmps121
  go_wp2
  go_loopw [8] (fun i wr => ∃ k : Nat, k ≤ len ∧ i = .int .i64 k ∧ Blk wr w.heap.size .empty ∧ Blk wr (w.heap.size + 1) (addTo .empty f k) ∧ Below w.heap.size w wr)
    (fun i _ => len - (intOf i).toNat)
  case atStart =>
    refine ⟨0, Nat.zero_le _, rfl, (Blk.new0 w).alloc _, ?_, ?_⟩
    · have := Blk.new0 (w.alloc (.cells #[.int .u64 0, .int .u64 0, .int .u64 0, .int .u64 0] 41))
      rw [World.size_alloc] at this
      exact this
    · go_grown
  case round =>
    obtain ⟨k, hk, rfl, h1, h2, hB⟩ := hrel
    by_cases hlt : k < len
    · have hn := HB.out k hlt
      have hcell : wr.cell? ⟨b, off + k, none⟩ = some (.int .u8 (f k : Int)) := (hB.cell (p := ⟨b, off + k, none⟩) hbw).trans (HC.out k hlt)
      have hw := h2.cell (f k / 64) (by omega)
      have hf := h2.free (f k / 64)
      go_wp2
      go_roundw
      case rel =>
        refine ⟨k + 1, by omega, by go_num, ?_, ?_, ?_⟩
        · exact h1.other _ (by simp) _
        · rw [add_word _ _ _ rfl]; exact h2.set _ (by omega) _
        · exact hB.setCell (by simp) _
      case measure => simp [intOf]; omega
    · obtain rfl : k = len := by omega
      obtain ⟨c0, c1, c2, c3⟩ := h2.cells
      obtain ⟨d0, d1, d2, d3⟩ := h1.cells
      obtain ⟨f0, f1, f2, f3⟩ := h1.frees
      go_wp2
      exact bodyPost_ret ((h1.store (addTo .empty f k)).results rfl _ rfl) rfl ⟨rfl, Blk.belowStore _ hB (Nat.le_refl _)⟩
def WSet.or (s t : WSet) : WSet := ⟨s.a ||| t.a, s.b ||| t.b, s.c ||| t.c, s.d ||| t.d⟩
def orTo (s : WSet) (f : Nat → WSet) : Nat → WSet
  | 0 => s
  | k + 1 => (orTo s f k).or (f k)
/-- The slice's memory holds the sets f 0, .., f (len - 1). -/
def SetsAt (w : World) (b off len : Nat) (f : Nat → WSet) : Prop := ∀ j, j < len → ∀ i, i < 4 → w.cell? ⟨b, off + j * 4 + i, none⟩ = some (.int .u64 (((f j).w i).toNat : Int))
set_option maxHeartbeats 1000000 in
theorem union_any (b off len cap : Nat) (f : Nat → WSet) (hlen : len ≤ maxLen) (w : World) (hbw : b < w.heap.size) (hc : SetsAt w b off len f) :
    Calls Tryz.prog 43 #[.slice (some ⟨b, off, none⟩) len cap] w fun e w' => e = .returned (orTo .empty f len).v ∧ Below w.heap.size w w' := by
  unfold maxLen at hlen
  go_enter Tryz.func43, Tryz.ntmps43
  go_wp2
  go_loopw [9] (fun i wr => ∃ k : Nat, k ≤ len ∧ i = .int .i64 k ∧ Blk wr w.heap.size .empty ∧ Blk wr (w.heap.size + 1) (orTo .empty f k) ∧ Below w.heap.size w wr)
    (fun i _ => len - (intOf i).toNat)
  case atStart =>
    refine ⟨0, Nat.zero_le _, rfl, (Blk.new0 w).alloc _, ?_, ?_⟩
    · have := Blk.new0 (w.alloc (.cells #[.int .u64 0, .int .u64 0, .int .u64 0, .int .u64 0] 41))
      rw [World.size_alloc] at this
      exact this
    · go_grown
  case round =>
    obtain ⟨k, hk, rfl, h1, h2, hB⟩ := hrel
    by_cases hlt : k < len
    · have e0 := (hB.cell (p := ⟨b, off + k * 4 + 0, none⟩) hbw).trans (hc k hlt 0 (by omega))
      rw [Nat.add_zero] at e0
      have e1 := (hB.cell (p := ⟨b, off + k * 4 + 1, none⟩) hbw).trans (hc k hlt 1 (by omega))
      have e2 := (hB.cell (p := ⟨b, off + k * 4 + 2, none⟩) hbw).trans (hc k hlt 2 (by omega))
      have e3 := (hB.cell (p := ⟨b, off + k * 4 + 3, none⟩) hbw).trans (hc k hlt 3 (by omega))
      obtain ⟨c0, c1, c2, c3⟩ := h2.cells
      obtain ⟨f0, f1, f2, f3⟩ := h2.frees
      have l2 := h2.lt
      go_wp2
      refine wp_loop_rounds 5 ?_
      rw [rounds_succ]; go_wp2; go_region; go_wp2
      rw [rounds_succ]; go_wp2; go_region; go_wp2
      rw [rounds_succ]; go_wp2; go_region; go_wp2
      rw [rounds_succ]; go_wp2; go_region; go_wp2
      rw [rounds_succ]; go_wp2
      go_roundw
      case rel =>
        rw [bits_or, bits_or, bits_or, bits_or]
        refine ⟨k + 1, by omega, by go_num, ?_, ?_, ?_⟩
        · exact (((((h1.other _ (by simp) _).other _ (by simp) _).other _ (by simp) _).other _ (by simp) _).alloc _)
        · exact (h2.store (orTo .empty f (k + 1))).alloc _
        · exact (((((((hB.setCell (by simp) _).setCell (by simp) _).setCell (by simp) _).setCell (by simp) _).alloc (by simp; omega) _).drew).drew).drew.drew
      case measure => simp [intOf]; omega
    · obtain rfl : k = len := by omega
      obtain ⟨c0, c1, c2, c3⟩ := h2.cells
      obtain ⟨d0, d1, d2, d3⟩ := h1.cells
      obtain ⟨f0, f1, f2, f3⟩ := h1.frees
      go_wp2
      exact bodyPost_ret ((h1.store (orTo .empty f k)).results rfl _ rfl) rfl ⟨rfl, Blk.belowStore _ hB (Nat.le_refl _)⟩
def WSet.and (s t : WSet) : WSet := ⟨s.a &&& t.a, s.b &&& t.b, s.c &&& t.c, s.d &&& t.d⟩
def andTo (s : WSet) (f : Nat → WSet) : Nat → WSet
  | 0 => s
  | k + 1 => (andTo s f k).and (f k)
def spanTo (lo : Nat) (k : Nat) : WSet := addTo .empty (fun j => lo + j) k
set_option maxHeartbeats 1000000 in
theorem span_any (lo hi : Nat) (h1 : lo < 256) (h2 : hi < 256) (w : World) :
    Calls Tryz.prog 140 #[.agg #[.int .u8 lo, .int .u8 hi]] w fun e w' => e = .returned (spanTo lo (hi + 1 - lo)).v ∧ Below w.heap.size w w' := by
  go_enter Tryz.func140, Tryz.ntmps140
  go_wp2
  go_loopw [4] (fun i wr => ∃ k : Nat, k ≤ hi + 1 - lo ∧ i = .int .i64 ((lo + k : Nat) : Int) ∧ wr.cell? ⟨w.heap.size, 1, none⟩ = some (.int .u8 hi) ∧ Blk wr (w.heap.size + 1) .empty ∧ Blk wr (w.heap.size + 1 + 1) (spanTo lo k) ∧ Below w.heap.size w wr)
    (fun i _ => hi + 1 - (intOf i).toNat)
  case atStart =>
    refine ⟨0, Nat.zero_le _, rfl, by go_cell, ?_, ?_, ?_⟩
    · have := (Blk.new0 (w.alloc (.cells #[.int .u8 lo, .int .u8 hi] 129))).alloc (.cells #[.int .u64 0, .int .u64 0, .int .u64 0, .int .u64 0] 41)
      simpa only [World.size_alloc] using this
    · have := Blk.new0 ((w.alloc (.cells #[.int .u8 lo, .int .u8 hi] 129)).alloc (.cells #[.int .u64 0, .int .u64 0, .int .u64 0, .int .u64 0] 41))
      rw [World.size_alloc, World.size_alloc] at this
      exact this
    · go_grown
  case round =>
    obtain ⟨k, hk, rfl, hr, b1, b2, hB⟩ := hrel
    by_cases hlt : lo + k ≤ hi
    · have hw := b2.cell ((lo + k) / 64) (by omega)
      have hf := b2.free ((lo + k) / 64)
      go_wp2
      go_region
      go_wp2
      go_roundw
      case rel =>
        refine ⟨k + 1, by omega, by go_num, ?_, ?_, ?_, ?_⟩
        · go_cell
        · exact b1.other _ (by simp) _
        · rw [add_word _ _ _ rfl]; exact b2.set _ (by omega) _
        · exact (hB.setCell (by simp; omega) _).drew
      case measure => simp [intOf]; omega
    · obtain rfl : k = hi + 1 - lo := by omega
      obtain ⟨c0, c1, c2, c3⟩ := b2.cells
      obtain ⟨d0, d1, d2, d3⟩ := b1.cells
      obtain ⟨f0, f1, f2, f3⟩ := b1.frees
      go_wp2
      exact bodyPost_ret ((b1.store (spanTo lo (hi + 1 - lo))).results rfl _ rfl) rfl ⟨rfl, Blk.belowStore _ hB (by omega)⟩
end Go.Proofs.YtdnbnigebejgjaaGreatDoor
namespace Go.Proofs.YtdnbnigebejgjaaGreatDoor
open Go.RowKit
theorem bcell {W w1 : World} (hb : Below W.heap.size W w1) : (∀ b o, b < W.heap.size → w1.cell? ⟨b, o, none⟩ = W.cell? ⟨b, o, none⟩) ∧ (∀ b o, b < W.heap.size → w1.frozen? ⟨b, o, none⟩ = W.frozen? ⟨b, o, none⟩) :=
  ⟨fun b o h => hb.cell (p := ⟨b, o, none⟩) h, fun b o h => hb.frozen (p := ⟨b, o, none⟩) h⟩
theorem Blk.belowAD {w w' : World} {B n : Nat} {s : WSet} {o : Obj} (h : Blk w B s) (hb : Below n (w.alloc o).drew w') (hn : B < n) : Blk w' B s := (h.alloc o).drew.below hb hn
theorem Blk.results2 {w : World} {B : Nat} {s : WSet} (hb : Blk w B s) {fn : Func} {p q : Tmp} (h : fn.results = #[.cell p 41, .tmp q]) (tmps : Array Value)
    (hp : tmps.getD p undef = .pointer (some ⟨B, 0, none⟩)) (v : Value) (hq : tmps.getD q undef = v) : (Go.results fn tmps).run Tryz.prog w = .ok (.tuple #[s.v, v]) w := by
  have hp' : tmps[p]?.getD undef = .pointer (some ⟨B, 0, none⟩) := by simpa using hp
  have hq' : tmps[q]?.getD undef = v := by simpa using hq
  simp [Go.results, h, hp', hq', asAddr, run_loadVar_row w B _ _ _ _ _ hb Tryz.underlying41 rfl set_size]
/-- What comes of the ranges: none, if one of them ends before it begins. -/
def rangesTo (lo hi : Nat → Nat) : Nat → WSet
  | 0 => .empty
  | k + 1 => (rangesTo lo hi k).or (spanTo (lo k) (hi k + 1 - lo k))
def pairF (s t : WSet) : Nat → WSet | 0 => s | _ => t
theorem orTo_pair (s t : WSet) : orTo .empty (pairF s t) 2 = s.or t := by
  simp [orTo, pairF, WSet.or, WSet.empty]
theorem union2 (x0 x1 x2 x3 y0 y1 y2 y3 : BitVec 64) (W : World) :
    Calls Tryz.prog 43 #[.slice (some ⟨W.heap.size, 0, none⟩) 2 2] (W.alloc (.cells #[.int .u64 x0.toNat, .int .u64 x1.toNat, .int .u64 x2.toNat, .int .u64 x3.toNat, .int .u64 y0.toNat, .int .u64 y1.toNat, .int .u64 y2.toNat, .int .u64 y3.toNat] 41)) fun e w' => e = .returned ((WSet.mk x0 x1 x2 x3).or (WSet.mk y0 y1 y2 y3)).v ∧ Below W.heap.size W w' := by
  refine (union_any W.heap.size 0 2 2 (pairF (WSet.mk x0 x1 x2 x3) (WSet.mk y0 y1 y2 y3)) (by unfold maxLen; omega) _ (by simp) ?_).mono ?_
  · intro j hj i hi
    have hk : (W.alloc (.cells #[.int .u64 x0.toNat, .int .u64 x1.toNat, .int .u64 x2.toNat, .int .u64 x3.toNat, .int .u64 y0.toNat, .int .u64 y1.toNat, .int .u64 y2.toNat, .int .u64 y3.toNat] 41)).heap[W.heap.size]? = _ := heap_alloc_new W _
    rw [cell_of_row _ _ _ _ _ _ hk]
    match j, hj, i, hi with
    | 0, _, 0, _ => rfl
    | 0, _, 1, _ => rfl
    | 0, _, 2, _ => rfl
    | 0, _, 3, _ => rfl
    | 1, _, 0, _ => rfl
    | 1, _, 1, _ => rfl
    | 1, _, 2, _ => rfl
    | 1, _, 3, _ => rfl
  · rintro e w' ⟨rfl, hb⟩
    exact ⟨by rw [orTo_pair], ((Below.refl _ W).alloc (Nat.le_refl _) _).trans (hb.mono (by simp))⟩
set_option maxHeartbeats 1000000 in
theorem ranges_ok (b off len cap : Nat) (lo hi : Nat → Nat) (hb : ∀ j, j < len → lo j < 256 ∧ hi j < 256) (hle : ∀ j, j < len → lo j ≤ hi j) (hlen : len ≤ maxLen) (w : World) (hbw : b < w.heap.size)
    (hc : ∀ j, j < len → w.cell? ⟨b, off + j * 2, none⟩ = some (.int .u8 (lo j : Int)) ∧ w.cell? ⟨b, off + j * 2 + 1, none⟩ = some (.int .u8 (hi j : Int))) :
    Calls Tryz.prog 137 #[.slice (some ⟨b, off, none⟩) len cap] w fun e w' => e = .returned (.tuple #[(rangesTo lo hi len).v, .int .i64 0]) ∧ Below w.heap.size w w' := by
  unfold maxLen at hlen
  have HC := Lib.hid hc
  have HB := Lib.hid hb
  have HL := Lib.hid hle
  clear hc hb hle
  go_enter Tryz.func137, Tryz.ntmps137
  go_wp2
  go_loopw [9] (fun i wr => ∃ k : Nat, k ≤ len ∧ i = .int .i64 k ∧ Blk wr w.heap.size .empty ∧ Blk wr (w.heap.size + 1) (rangesTo lo hi k) ∧ Below w.heap.size w wr)
    (fun i _ => len - (intOf i).toNat)
  case atStart =>
    refine ⟨0, Nat.zero_le _, rfl, (Blk.new0 w).alloc _, ?_, ?_⟩
    · have := Blk.new0 (w.alloc (.cells #[.int .u64 0, .int .u64 0, .int .u64 0, .int .u64 0] 41))
      rw [World.size_alloc] at this
      exact this
    · go_grown
  case round =>
    obtain ⟨k, hk, rfl, h1, h2, hB⟩ := hrel
    by_cases hlt : k < len
    · obtain ⟨hl1, hl2⟩ := HB.out k hlt
      have hl3 := HL.out k hlt
      have e0 := (hB.cell (p := ⟨b, off + k * 2, none⟩) hbw).trans (HC.out k hlt).1
      have e1 := (hB.cell (p := ⟨b, off + k * 2 + 1, none⟩) hbw).trans (HC.out k hlt).2
      obtain ⟨c0, c1, c2, c3⟩ := h2.cells
      obtain ⟨f0, f1, f2, f3⟩ := h2.frees
      have l2 := h2.lt
      go_wp2
      go_region_with (first
        | (go_at_call 140; refine (span_any (lo k) (hi k) hl1 hl2 _).mono ?_; rintro e w5 ⟨rfl, hb5⟩; have hz5 : wr.heap.size < w5.heap.size := (by have := hb5.size; simp at this; omega); have b5 : Blk w5 (w.heap.size + 1) (rangesTo lo hi k) := Blk.belowAD h2 hb5 (by go_size); obtain ⟨c50, c51, c52, c53⟩ := b5.cells)
        | (go_at_call 43; refine (union2 _ _ _ _ _ _ _ _ _).mono ?_; rintro e w6 ⟨rfl, hb6⟩; have hz6 : w5.heap.size ≤ w6.heap.size := hb6.size; have b6 : Blk w6 (w.heap.size + 1) (rangesTo lo hi k) := Blk.below b5 hb6 (by go_size); obtain ⟨c60, c61, c62, c63⟩ := b6.cells; obtain ⟨f60, f61, f62, f63⟩ := b6.frees))
      all_goals
        go_wp2
        go_roundw
        case rel =>
          refine ⟨k + 1, by omega, by go_num, ?_, ?_, ?_⟩
          · have a6 : Blk w6 w.heap.size .empty := Blk.below (Blk.belowAD h1 hb5 (by go_size)) hb6 (by go_size)
            exact (((a6.other _ (by simp) _).other _ (by simp) _).other _ (by simp) _).other _ (by simp) _
          · exact b6.store (rangesTo lo hi (k + 1))
          · exact Blk.belowStore (rangesTo lo hi (k + 1)) ((((hB.alloc (by omega) _).drew).trans (hb5.mono (by go_size))).trans (hb6.mono (by omega))) (by omega)
        case measure => simp [intOf]; omega
    · obtain rfl : k = len := by omega
      obtain ⟨c0, c1, c2, c3⟩ := h2.cells
      obtain ⟨d0, d1, d2, d3⟩ := h1.cells
      obtain ⟨f0, f1, f2, f3⟩ := h1.frees
      go_wp2
      exact bodyPost_ret ((h1.store (rangesTo lo hi k)).results2 rfl _ rfl _ rfl) rfl ⟨rfl, Blk.belowStore _ hB (Nat.le_refl _)⟩
end Go.Proofs.YtdnbnigebejgjaaGreatDoor
