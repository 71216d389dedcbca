/-
  What byteset.Ranges returns for ranges none of which ends before it begins, and a union of two sets as Go writes it. Slices that are not nil.
  Two sets are compared word by word. No condition.
-/
import Derived.Test.YtjinedeelkdgiaaDoorHUSets
import Derived.Deep.RegionWith
import Derived.Lib.Hide
import Derived.Test.YtjinedeelkdgiaaDoorHBits
namespace Go.Proofs.YtjinedeelkdgiaaDoor
open Go.RowKit
theorem bcell {W w1 : World} (hb : Below W.heap.size W w1) : (∀ b o, b < W.heap.size → w1.cell? ⟨b, o, none⟩ = W.cell? ⟨b, o, none⟩) ∧ (∀ b o, b < W.heap.size → w1.frozen? ⟨b, o, none⟩ = W.frozen? ⟨b, o, none⟩) :=
  ⟨fun b o h => hb.cell (p := ⟨b, o, none⟩) h, fun b o h => hb.frozen (p := ⟨b, o, none⟩) h⟩
theorem Blk.belowAD {w w' : World} {B n : Nat} {s : WSet} {o : Obj} (h : Blk w B s) (hb : Below n (w.alloc o).drew w') (hn : B < n) : Blk w' B s := (h.alloc o).drew.below hb hn
theorem Blk.results2 {w : World} {B : Nat} {s : WSet} (hb : Blk w B s) {fn : Func} {p q : Tmp} (h : fn.results = #[.cell p 38, .tmp q]) (tmps : Array Value)
    (hp : tmps.getD p undef = .pointer (some ⟨B, 0, none⟩)) (v : Value) (hq : tmps.getD q undef = v) : (Go.results fn tmps).run Tryd.prog w = .ok (.tuple #[s.v, v]) w := by
  have hp' : tmps[p]?.getD undef = .pointer (some ⟨B, 0, none⟩) := by simpa using hp
  have hq' : tmps[q]?.getD undef = v := by simpa using hq
  simp [Go.results, h, hp', hq', asAddr, run_loadVar_row w B _ _ _ _ _ hb Tryd.underlying38 rfl set_size]
/-- What comes of the ranges: none, if one of them ends before it begins. -/
def rangesTo (lo hi : Nat → Nat) : Nat → WSet
  | 0 => .empty
  | k + 1 => (rangesTo lo hi k).or (spanTo (lo k) (hi k + 1 - lo k))
def pairF (s t : WSet) : Nat → WSet | 0 => s | _ => t
theorem orTo_pair (s t : WSet) : orTo .empty (pairF s t) 2 = s.or t := by
  simp [orTo, pairF, WSet.or, WSet.empty]
theorem union2 (x0 x1 x2 x3 y0 y1 y2 y3 : BitVec 64) (W : World) :
    Calls Tryd.prog 73 #[.slice (some ⟨W.heap.size, 0, none⟩) 2 2] (W.alloc (.cells #[.int .u64 x0.toNat, .int .u64 x1.toNat, .int .u64 x2.toNat, .int .u64 x3.toNat, .int .u64 y0.toNat, .int .u64 y1.toNat, .int .u64 y2.toNat, .int .u64 y3.toNat] 38)) fun e w' => e = .returned ((WSet.mk x0 x1 x2 x3).or (WSet.mk y0 y1 y2 y3)).v ∧ Below W.heap.size W w' := by
  refine (union_any W.heap.size 0 2 2 (pairF (WSet.mk x0 x1 x2 x3) (WSet.mk y0 y1 y2 y3)) (by unfold maxLen; omega) _ (by simp) ?_).mono ?_
  · intro j hj i hi
    have hk : (W.alloc (.cells #[.int .u64 x0.toNat, .int .u64 x1.toNat, .int .u64 x2.toNat, .int .u64 x3.toNat, .int .u64 y0.toNat, .int .u64 y1.toNat, .int .u64 y2.toNat, .int .u64 y3.toNat] 38)).heap[W.heap.size]? = _ := heap_alloc_new W _
    rw [cell_of_row _ _ _ _ _ _ hk]
    match j, hj, i, hi with
    | 0, _, 0, _ => rfl
    | 0, _, 1, _ => rfl
    | 0, _, 2, _ => rfl
    | 0, _, 3, _ => rfl
    | 1, _, 0, _ => rfl
    | 1, _, 1, _ => rfl
    | 1, _, 2, _ => rfl
    | 1, _, 3, _ => rfl
  · rintro e w' ⟨rfl, hb⟩
    exact ⟨by rw [orTo_pair], ((Below.refl _ W).alloc (Nat.le_refl _) _).trans (hb.mono (by simp))⟩
set_option maxHeartbeats 1000000 in
theorem ranges_ok (b off len cap : Nat) (lo hi : Nat → Nat) (hb : ∀ j, j < len → lo j < 256 ∧ hi j < 256) (hle : ∀ j, j < len → lo j ≤ hi j) (hlen : len ≤ maxLen) (w : World) (hbw : b < w.heap.size)
    (hc : ∀ j, j < len → w.cell? ⟨b, off + j * 2, none⟩ = some (.int .u8 (lo j : Int)) ∧ w.cell? ⟨b, off + j * 2 + 1, none⟩ = some (.int .u8 (hi j : Int))) :
    Calls Tryd.prog 44 #[.slice (some ⟨b, off, none⟩) len cap] w fun e w' => e = .returned (.tuple #[(rangesTo lo hi len).v, .int .i64 0]) ∧ Below w.heap.size w w' := by
  unfold maxLen at hlen
  have HC := Lib.hid hc
  have HB := Lib.hid hb
  have HL := Lib.hid hle
  clear hc hb hle
  go_enter Tryd.func44, Tryd.ntmps44
  go_wp2
  go_loopw [9] (fun i wr => ∃ k : Nat, k ≤ len ∧ i = .int .i64 k ∧ Blk wr w.heap.size .empty ∧ Blk wr (w.heap.size + 1) (rangesTo lo hi k) ∧ Below w.heap.size w wr)
    (fun i _ => len - (intOf i).toNat)
  case atStart =>
    refine ⟨0, Nat.zero_le _, rfl, (Blk.new0 w).alloc _, ?_, ?_⟩
    · have := Blk.new0 (w.alloc (.cells #[.int .u64 0, .int .u64 0, .int .u64 0, .int .u64 0] 38))
      rw [World.size_alloc] at this
      exact this
    · go_grown
  case round =>
    obtain ⟨k, hk, rfl, h1, h2, hB⟩ := hrel
    by_cases hlt : k < len
    · obtain ⟨hl1, hl2⟩ := HB.out k hlt
      have hl3 := HL.out k hlt
      have e0 := (hB.cell (p := ⟨b, off + k * 2, none⟩) hbw).trans (HC.out k hlt).1
      have e1 := (hB.cell (p := ⟨b, off + k * 2 + 1, none⟩) hbw).trans (HC.out k hlt).2
      obtain ⟨c0, c1, c2, c3⟩ := h2.cells
      obtain ⟨f0, f1, f2, f3⟩ := h2.frees
      have l2 := h2.lt
      go_wp2
      go_region_with (first
        | (go_at_call 74; refine (span_any (lo k) (hi k) hl1 hl2 _).mono ?_; rintro e w5 ⟨rfl, hb5⟩; have hz5 : wr.heap.size < w5.heap.size := (by have := hb5.size; simp at this; omega); have b5 : Blk w5 (w.heap.size + 1) (rangesTo lo hi k) := Blk.belowAD h2 hb5 (by go_size); obtain ⟨c50, c51, c52, c53⟩ := b5.cells)
        | (go_at_call 73; refine (union2 _ _ _ _ _ _ _ _ _).mono ?_; rintro e w6 ⟨rfl, hb6⟩; have hz6 : w5.heap.size ≤ w6.heap.size := hb6.size; have b6 : Blk w6 (w.heap.size + 1) (rangesTo lo hi k) := Blk.below b5 hb6 (by go_size); obtain ⟨c60, c61, c62, c63⟩ := b6.cells; obtain ⟨f60, f61, f62, f63⟩ := b6.frees))
      all_goals
        go_wp2
        go_roundw
        case rel =>
          refine ⟨k + 1, by omega, by go_num, ?_, ?_, ?_⟩
          · have a6 : Blk w6 w.heap.size .empty := Blk.below (Blk.belowAD h1 hb5 (by go_size)) hb6 (by go_size)
            exact (((a6.other _ (by simp) _).other _ (by simp) _).other _ (by simp) _).other _ (by simp) _
          · exact b6.store (rangesTo lo hi (k + 1))
          · exact Blk.belowStore (rangesTo lo hi (k + 1)) ((((hB.alloc (by omega) _).drew).trans (hb5.mono (by go_size))).trans (hb6.mono (by omega))) (by omega)
        case measure => simp [intOf]; omega
    · obtain rfl : k = len := by omega
      obtain ⟨c0, c1, c2, c3⟩ := h2.cells
      obtain ⟨d0, d1, d2, d3⟩ := h1.cells
      obtain ⟨f0, f1, f2, f3⟩ := h1.frees
      go_wp2
      exact bodyPost_ret ((h1.store (rangesTo lo hi k)).results2 rfl _ rfl _ rfl) rfl ⟨rfl, Blk.belowStore _ hB (Nat.le_refl _)⟩
end Go.Proofs.YtjinedeelkdgiaaDoor
namespace Go.Proofs.YtjinedeelkdgiaaDoor
open Go.RowKit
theorem eq_int (d : Nat) (a b : Int) (w : World) : (Op.equalIn (d + 1) 36 (.int .u64 a) (.int .u64 b)).run Tryd.prog w = .ok (a == b) w := run_equalIn_int w d 36 .u64 .u64 a b Tryd.underlying36
theorem eq_sets_d (d : Nat) (x0 x1 x2 x3 y0 y1 y2 y3 : Int) (w : World) :
    (Op.equalIn (d + 1 + 1) 38 (.agg #[.int .u64 x0, .int .u64 x1, .int .u64 x2, .int .u64 x3]) (.agg #[.int .u64 y0, .int .u64 y1, .int .u64 y2, .int .u64 y3])).run Tryd.prog w
      = .ok (x0 == y0 && (x1 == y1 && (x2 == y2 && x3 == y3))) w := by
  have hz : ∀ w, (sizeOf 36).run Tryd.prog w = .ok 1 w := fun _ => by kernel_rfl
  have p0 : ∀ (a b c d : Int) w, (part 36 #[.int .u64 a, .int .u64 b, .int .u64 c, .int .u64 d] 0).run Tryd.prog w = .ok (.int .u64 a) w := fun _ _ _ _ _ => by kernel_rfl
  have p1 : ∀ (a b c d : Int) w, (part 36 #[.int .u64 a, .int .u64 b, .int .u64 c, .int .u64 d] 1).run Tryd.prog w = .ok (.int .u64 b) w := fun _ _ _ _ _ => by kernel_rfl
  have p2 : ∀ (a b c d : Int) w, (part 36 #[.int .u64 a, .int .u64 b, .int .u64 c, .int .u64 d] 2).run Tryd.prog w = .ok (.int .u64 c) w := fun _ _ _ _ _ => by kernel_rfl
  have p3 : ∀ (a b c d : Int) w, (part 36 #[.int .u64 a, .int .u64 b, .int .u64 c, .int .u64 d] 3).run Tryd.prog w = .ok (.int .u64 d) w := fun _ _ _ _ _ => by kernel_rfl
  unfold Op.equalIn
  simp only [Sem.run_bind, run_underlying Tryd.underlying38, Result.andThen_ok, hz, Std.Legacy.Range.forIn_eq_forIn_range', Std.Legacy.Range.size]
  simp only [Nat.sub_zero, Nat.div_one, List.range'_succ, List.range'_zero, List.forIn_cons, List.forIn_nil, Sem.run_bind, Nat.mul_one, Nat.zero_add, Nat.reduceAdd, p0, Result.andThen_ok, eq_int, Sem.run_ite, Sem.run_pure]
  cases h0 : (x0 == y0)
  · simp
  · cases h1 : (x1 == y1)
    · simp [p1, eq_int, h1]
    · cases h2 : (x2 == y2)
      · simp [p1, p2, eq_int, h1, h2]
      · simp [p1, p2, p3, eq_int, h1, h2]
        cases h3 : (x3 == y3) <;> simpa using h3
theorem eq_sets (x0 x1 x2 x3 y0 y1 y2 y3 : Int) (w : World) :
    (Op.equalIn 10000 38 (.agg #[.int .u64 x0, .int .u64 x1, .int .u64 x2, .int .u64 x3]) (.agg #[.int .u64 y0, .int .u64 y1, .int .u64 y2, .int .u64 y3])).run Tryd.prog w
      = .ok (x0 == y0 && (x1 == y1 && (x2 == y2 && x3 == y3))) w := eq_sets_d 9998 x0 x1 x2 x3 y0 y1 y2 y3 w
end Go.Proofs.YtjinedeelkdgiaaDoor
