/-
  byteset.runs and the iterator that it returns: the longest runs of the set, ascending, for every loop body that leaves the table of math/bits and the blocks that hold sets alone.
-/
import Derived.Test.YtbpnhiejmkeclaaDoorList
import Derived.Lib.Hide
namespace Go.Proofs.YtbpnhiejmkeclaaDoor
open Go.RowKit Go.Shelf
attribute [local go_sem] Oper.semAt_some
theorem not_has (s : WSet) (b : Nat) (hb : b < 256) : s.not.has b = !s.has b := by
  unfold WSet.has
  have h : s.not.w (b / 64) = ~~~(s.w (b / 64)) := by
    have : b / 64 < 4 := by omega
    match b / 64, this with
    | 0, _ => rfl
    | 1, _ => rfl
    | 2, _ => rfl
    | 3, _ => rfl
  have h2 : b % 64 < 64 := by omega
  rw [h, BitVec.getLsbD_not]
  simp [h2]
theorem nextOf_cases (s : WSet) (f : Nat) : (∃ x, nextOf s f = (x, 0) ∧ f ≤ x ∧ x < 256 ∧ s.has x = true ∧ ∀ j, f ≤ j → j < x → s.has j = false) ∨ (nextOf s f = (0, 6) ∧ ∀ j, f ≤ j → j < 256 → s.has j = false) := by
  have hh : (upto s f 256).head? = (List.range 256).find? (fun b => decide (f ≤ b) && s.has b) := List.head?_filter
  cases hu : upto s f 256 with
  | nil =>
    right
    refine ⟨by unfold nextOf; rw [hu], ?_⟩
    intro j h1 h2
    rw [hu] at hh
    have := List.find?_eq_none.1 hh.symm j (List.mem_range.2 h2)
    simpa [h1] using this
  | cons x l =>
    left
    refine ⟨x, by unfold nextOf; rw [hu], ?_⟩
    rw [hu] at hh
    obtain ⟨h1, h2, h3⟩ := List.find?_range_eq_some.1 hh.symm
    simp at h1 h2
    refine ⟨h1.1, h2, h1.2, ?_⟩
    intro j hj1 hj2
    have := h3 j hj2
    simpa [hj1] using this
/-- Where the run that begins at lo is over. -/
def pastOf (s : WSet) (lo : Nat) : Nat := match nextOf s.not lo with
  | (p, 0) => p
  | _ => 256
theorem pastOf_hit {s : WSet} {lo x : Nat} (e : nextOf s.not lo = (x, 0)) : pastOf s lo = x := by unfold pastOf; rw [e]; rfl
theorem pastOf_miss {s : WSet} {lo : Nat} (e : nextOf s.not lo = (0, 6)) : pastOf s lo = 256 := by unfold pastOf; rw [e]; rfl
theorem pastOf_spec (s : WSet) (lo : Nat) (hlo : lo < 256) (h : s.has lo = true) : lo < pastOf s lo ∧ pastOf s lo ≤ 256 ∧ (∀ j, lo ≤ j → j < pastOf s lo → s.has j = true) ∧ (pastOf s lo < 256 → s.has (pastOf s lo) = false) := by
  rcases nextOf_cases s.not lo with ⟨x, e, h1, h2, h3, h4⟩ | ⟨e, h4⟩
  · rw [pastOf_hit e]
    rw [not_has _ _ h2] at h3
    have hne : lo ≠ x := by rintro rfl; rw [h] at h3; cases h3
    refine ⟨by omega, by omega, ?_, fun _ => by simpa using h3⟩
    intro j hj1 hj2
    have := h4 j hj1 hj2
    rw [not_has _ _ (by omega)] at this
    simpa using this
  · rw [pastOf_miss e]
    refine ⟨hlo, Nat.le_refl _, ?_, fun h => absurd h (by omega)⟩
    intro j hj1 hj2
    have := h4 j hj1 hj2
    rw [not_has _ _ (by omega)] at this
    simpa using this
/-- The runs of s from f on; 'k' bounds their number. -/
def runsF (s : WSet) : Nat → Nat → List (Nat × Nat)
  | 0, _ => []
  | k + 1, f => match nextOf s f with
    | (lo, 0) => (lo, pastOf s lo - 1) :: runsF s k (pastOf s lo)
    | _ => []
/-- The runs of s. -/
def runsOf (s : WSet) : List (Nat × Nat) := runsF s 257 0
/-- The table and all blocks that hold sets lie as they lay. -/
def KeepsT (A B : World) : Prop := B.heap[0]? = A.heap[0]? ∧ ∀ (k : Nat) (cs : Array Value), A.heap[k]? = some (Obj.cells cs 24 (0, 0)) → B.heap[k]? = A.heap[k]?
theorem KeepsT.refl (A : World) : KeepsT A A := ⟨rfl, fun _ _ _ => rfl⟩
theorem KeepsT.trans {A B C : World} (h : KeepsT A B) (k : KeepsT B C) : KeepsT A C :=
  ⟨k.1.trans h.1, fun i cs hi => (k.2 i cs ((h.2 i cs hi).trans hi)).trans (h.2 i cs hi)⟩
theorem KeepsT.blk {A B : World} {k : Nat} {s : WSet} (h : KeepsT A B) (hs : Blk A k s) : Blk B k s := (h.2 k _ hs).trans hs
theorem KeepsT.tab {A B : World} (h : KeepsT A B) (ht : Tab A) : Tab B := fun j hj => (World.cell?_of_block (w := A) h.1).trans (ht j hj)
theorem keepsT_b {w : World} (h0 : 0 < w.heap.size) (W : World) (l : Nat) (o o' : Obj) (hl : w.heap.size ≤ l) (h : W.heap[l]? = some o) (hc : o.isCells = false) (hw : o.isWalk = false) : KeepsT W (W.putObj l o') := by
  refine ⟨(belowK_b (n₀ := w.heap.size) (Nat.le_refl _) W l o o' hl h hc hw).block _ h0, fun k cs hk => ?_⟩
  refine World.putObj_heap_other ?_
  rintro rfl
  rw [h] at hk
  cases hk
  cases hc
theorem belowGrown {W W' : World} (h : Below W.heap.size W W') : W.grownBy W' none := ⟨h.os, h.tape, h.output, h.size, fun k hk _ => h.block k hk⟩
theorem keepsT_below {W W' : World} (h : Below W.heap.size W W') (h0 : 0 < W.heap.size) : KeepsT W W' :=
  ⟨h.block _ h0, fun k _ hk => h.block k (lt_of_block hk)⟩
theorem nextOf_code (s : WSet) (f : Nat) : (nextOf s f).2 = 0 ∨ (nextOf s f).2 = 6 := by
  rcases nextOf_cases s f with ⟨x, e, _⟩ | ⟨e, _⟩
  · left; rw [e]
  · right; rw [e]
/-- A run: from one byte to another. -/
abbrev Run := { p : Nat × Nat // p.1 ≤ p.2 ∧ p.2 < 256 }
/-- How many runs may still come. -/
def codeMeasure (lo e : Value) : Nat := if intOf e = 0 then 258 - (intOf lo).toNat else 0
theorem codeMeasure_lt (s : WSet) (x p : Nat) (hx : x < 256) (hp : x < p) : codeMeasure (.int .i64 ((nextOf s p).1 : Nat)) (.int .i64 ((nextOf s p).2 : Nat)) < codeMeasure (.int .i64 (x : Nat)) (.int .i64 ((0 : Nat) : Int)) := by
  unfold codeMeasure
  rcases nextOf_cases s p with ⟨y, e, h1, h2, _⟩ | ⟨e, _⟩
  · rw [e]; simp [intOf]; omega
  · rw [e]; simp [intOf]; omega
set_option maxRecDepth 100000 in
set_option maxHeartbeats 2000000 in
/-- The closure of runs: the runs of s, for every loop body that leaves the table and what holds sets alone. -/
theorem runs1_in (n : Nat) (hn : 1 ≤ n) (l Bs : Nat) (s : WSet) (J Jx : List Run → World → Prop)
    (W : World) (hJ : AbidesFrom W.heap.size J)
    (hY : ∀ pre x W, J pre W → pre.length < 257 → YieldAt Fence.wide (n - 1) Tryd.prog l #[.agg #[.int .u8 (x.1.1 : Nat), .int .u8 (x.1.2 : Nat)]] W fun e W' =>
      (e = .returned (.bool true) ∧ J (pre ++ [x]) W' ∧ KeepsT W W') ∨ (e = .returned (.bool false) ∧ Jx (pre ++ [x]) W'))
    (hT : Tab W) (h0n : 0 < W.heap.size) (hs : Blk W Bs s) (h0 : J [] W) :
    CallsIn Fence.wide n Tryd.prog 56 #[.func (.yield l) #[] #[], .pointer (some ⟨Bs, 0, none⟩)] W fun e W' => (∃ v, e = .returned v) ∧
      ((∃ ys : List Run, ys.map (·.1) = runsOf s ∧ J ys W') ∨ (∃ pre, True ∧ Jx pre W')) := by
  refine callsIn_of_wp Tryd.func56 rfl trivial ?_ rfl
  simp only [Tryd.ntmps56, List.size_toArray, List.length_cons, List.length_nil, Nat.reduceAdd, Nat.reduceSub, Array.replicate_succ, Array.replicate_zero, List.push_toArray, List.append_toArray, List.nil_append, List.cons_append]
  obtain ⟨c0, c1, c2, c3⟩ := hs.cells
  gi_wp2_with fail
  refine ⟨trivial, ?_⟩
  refine (callsIn_wide.2 (not_any (s.w 0) (s.w 1) (s.w 2) (s.w 3) _)).mono ?_
  rintro e w1 ⟨rfl, hb1⟩
  have hz1 := hb1.size
  have hs1 : Blk w1 Bs s := hs.below hb1 hs.lt
  have hlt1 : Bs < w1.heap.size := hs1.lt
  have hT1 : Tab w1 := hT.below hb1 h0n
  have hg1 : 0 < w1.heap.size := Nat.lt_of_lt_of_le h0n hz1
  obtain ⟨d0, d1, d2, d3⟩ := hs1.cells
  gi_wp2_with fail
  refine ⟨trivial, ?_⟩
  refine (callsIn_wide.2 (next_any (s.w 0) (s.w 1) (s.w 2) (s.w 3) 0 (by omega) _ (hT1.below ((Below.refl _ _).alloc (Nat.le_refl _) _) hg1) (Nat.lt_of_lt_of_le hg1 (by simp)))).mono ?_
  rintro e w2 ⟨rfl, hb2⟩
  have hz2 : w1.heap.size < w2.heap.size := by have := hb2.size; simp at this; omega
  have hs2 : Blk w2 Bs s := (hs1.alloc _).below hb2 (by simp; omega)
  have hg2 : Blk w2 w1.heap.size s.not := (Blk.new w1 s.not).below hb2 (by simp)
  have hT2 : Tab w2 := (hT1.below ((Below.refl _ _).alloc (Nat.le_refl _) _) hg1).below hb2 (Nat.lt_of_lt_of_le hg1 (by simp))
  have hBig : Below W.heap.size W w2 := hb1.trans ((((Below.refl _ w1).alloc (Nat.le_refl _) _).mono hz1).trans (hb2.mono (by simp; omega)))
  have hJ2 : J [] w2 := hJ _ _ _ _ h0 (belowGrown hBig) (fun r e => by cases e)
  clear hb1 hb2 hs1 d0 d1 d2 d3 hT1
  gi_wp2_with fail
  gi_loopw [4, 5] (fun lo e wr => ∃ (pre : List Run) (f k : Nat), lo = .int .i64 ((nextOf s f).1 : Nat) ∧ e = .int .i64 ((nextOf s f).2 : Nat) ∧ 257 - f ≤ k ∧ f ≤ 256 ∧ pre.length ≤ f ∧ Hid (pre.map (·.1) ++ runsF s k f = runsOf s) ∧ J pre wr ∧ Tab wr ∧ Blk wr Bs s ∧ Blk wr w1.heap.size s.not ∧ W.heap.size ≤ wr.heap.size)
    (fun lo e _ => codeMeasure lo e)
  case atStart =>
    exact ⟨[], 0, 257, rfl, rfl, by omega, by omega, by simp, rfl, hJ2, hT2, hs2, hg2, hBig.size⟩
  case round =>
    obtain ⟨pre, f, k, rfl, rfl, hk, hf, hlen, HI, hJr, hTr, hsr, hgr, hzr⟩ := hrel
    rcases nextOf_cases s f with ⟨x, e, hx1, hx2, hx3, hx4⟩ | ⟨e, hno⟩
    · rw [e]
      dsimp only
      have hne : ((x : Int)) ≤ 255 := by omega
      obtain ⟨c0, c1, c2, c3⟩ := hgr.cells
      obtain ⟨d0, d1, d2, d3⟩ := hsr.cells
      obtain ⟨p1, p2, -, -⟩ := pastOf_spec s x hx2 hx3
      have hg0 : 0 < wr.heap.size := by omega
      gi_wp2_with fail
      refine ⟨trivial, ?_⟩
      refine (callsIn_wide.2 (next_any (s.not.w 0) (s.not.w 1) (s.not.w 2) (s.not.w 3) x (by omega) _ hTr hg0)).mono ?_
      rintro e' w3 ⟨rfl, hb3⟩
      have hz3 := hb3.size
      have hs3 : Blk w3 Bs s := hsr.below hb3 hsr.lt
      have hg3 : Blk w3 w1.heap.size s.not := hgr.below hb3 hgr.lt
      have hT3 : Tab w3 := hTr.below hb3 hg0
      have hJ3 : J pre w3 := hJ _ _ _ _ hJr (belowGrown hb3) (fun r e => by cases e)
      clear hb3
      rw [show nextOf ⟨s.not.w 0, s.not.w 1, s.not.w 2, s.not.w 3⟩ (Int.toNat x) = nextOf s.not x from rfl]
      have hpv : Hid (nextOf s.not x = (pastOf s x, 0) ∨ (nextOf s.not x = (0, 6) ∧ pastOf s x = 256)) := by
        show _ ∨ _
        rcases nextOf_cases s.not x with ⟨y, ey, _⟩ | ⟨ey, _⟩
        · left; rw [pastOf_hit ey, ey]
        · right; exact ⟨ey, pastOf_miss ey⟩
      have hrun : x ≤ pastOf s x - 1 ∧ pastOf s x - 1 < 256 := ⟨by omega, by omega⟩
      have hstep : Hid ((pre ++ [(⟨(x, pastOf s x - 1), hrun⟩ : Run)]).map (·.1) ++ runsF s (k - 1) (pastOf s x) = runsOf s) := by
        show _ = _
        rw [← HI.out]
        cases k with
        | zero => omega
        | succ k => simp [runsF, e]
      have e' := Lib.hid e
      clear e c0 c1 c2 c3 d0 d1 d2 d3 hx4
      obtain ⟨d0, d1, d2, d3⟩ := hs3.cells
      obtain ⟨fn, tmps, assign, body, hy, hR⟩ := hY pre ⟨(x, pastOf s x - 1), hrun⟩ w3 hJ3 (by omega)
      dsimp only at hy
      rw [show ((pastOf s x - 1 : Nat) : Int) = (pastOf s x : Int) - 1 by omega] at hy
      have hps := Lib.hid (codeMeasure_lt s x (pastOf s x) hx2 p1)
      rcases hpv.out with hq | ⟨hq, hq2⟩
      · rw [hq]
        dsimp only
        clear hq hpv
        gi_wp2_with fail
        refine hR.mono ?_
        rintro e W3 (⟨rfl, hJ4, hk4⟩ | ⟨rfl, hJx4⟩)
        · have hs4 := hk4.blk hs3
          have hg4 := hk4.blk hg3
          have hT4 := hk4.tab hT3
          have z4 := hs4.lt
          have z5 := hg4.lt
          have hg5 : 0 < W3.heap.size := by omega
          clear d0 d1 d2 d3
          obtain ⟨d0, d1, d2, d3⟩ := hs4.cells
          gi_wp2_with fail
          refine ⟨trivial, ?_⟩
          refine (callsIn_wide.2 (next_any (s.w 0) (s.w 1) (s.w 2) (s.w 3) (pastOf s x) (by omega) _ hT4 hg5)).mono ?_
          rintro e' w5 ⟨rfl, hb5⟩
          have hz5 := hb5.size
          rw [show nextOf ⟨s.w 0, s.w 1, s.w 2, s.w 3⟩ (Int.toNat (pastOf s x)) = nextOf s (pastOf s x) from rfl]
          have hs5 : Blk w5 Bs s := hs4.below hb5 hs4.lt
          have hg5' : Blk w5 w1.heap.size s.not := hg4.below hb5 hg4.lt
          have hT5 : Tab w5 := hT4.below hb5 hg5
          have hJ5 : J (pre ++ [⟨(x, pastOf s x - 1), hrun⟩]) w5 := hJ _ _ _ _ hJ4 (belowGrown hb5) (fun r e => by cases e)
          clear hb5
          gi_wp2_with fail
          go_roundw
          case rel => exact ⟨pre ++ [⟨(x, pastOf s x - 1), hrun⟩], pastOf s x, k - 1, rfl, rfl, by omega, by omega, by simp; omega, hstep, hJ5, hT5, hs5, hg5', by omega⟩
          case measure => exact hps.out
        · gi_wp2
          refine bodyPost_ret (results_none rfl _ _ _) rfl ?_
          exact ⟨⟨_, rfl⟩, .inr ⟨_, trivial, hJx4⟩⟩
      · rw [hq]
        dsimp only
        clear hq hpv
        rw [hq2, show (((256 : Nat) : Int) - 1) = 255 from rfl] at hy
        have H2 := Lib.hid hq2
        clear hq2
        gi_wp2_with fail
        refine hR.mono ?_
        rintro e W3 (⟨rfl, hJ4, hk4⟩ | ⟨rfl, hJx4⟩)
        · have hs4 := hk4.blk hs3
          have hg4 := hk4.blk hg3
          have hT4 := hk4.tab hT3
          have z4 := hs4.lt
          have z5 := hg4.lt
          have hg5 : 0 < W3.heap.size := by omega
          clear d0 d1 d2 d3
          obtain ⟨d0, d1, d2, d3⟩ := hs4.cells
          gi_wp2_with fail
          refine ⟨trivial, ?_⟩
          refine (callsIn_wide.2 (next_any (s.w 0) (s.w 1) (s.w 2) (s.w 3) 256 (by omega) _ hT4 hg5)).mono ?_
          rintro e' w5 ⟨rfl, hb5⟩
          have hz5 := hb5.size
          rw [show nextOf ⟨s.w 0, s.w 1, s.w 2, s.w 3⟩ (Int.toNat 256) = nextOf s (pastOf s x) by rw [H2.out]; rfl]
          have hs5 : Blk w5 Bs s := hs4.below hb5 hs4.lt
          have hg5' : Blk w5 w1.heap.size s.not := hg4.below hb5 hg4.lt
          have hT5 : Tab w5 := hT4.below hb5 hg5
          have hJ5 : J (pre ++ [⟨(x, pastOf s x - 1), hrun⟩]) w5 := hJ _ _ _ _ hJ4 (belowGrown hb5) (fun r e => by cases e)
          clear hb5
          gi_wp2_with fail
          go_roundw
          case rel => exact ⟨pre ++ [⟨(x, pastOf s x - 1), hrun⟩], pastOf s x, k - 1, rfl, rfl, by omega, by omega, by simp; omega, hstep, hJ5, hT5, hs5, hg5', by omega⟩
          case measure => exact hps.out
        · gi_wp2
          refine bodyPost_ret (results_none rfl _ _ _) rfl ?_
          exact ⟨⟨_, rfl⟩, .inr ⟨_, trivial, hJx4⟩⟩
    · rw [e]
      dsimp only
      gi_wp2
      go_end0
      refine ⟨⟨_, rfl⟩, .inl ⟨_, ?_, hJr⟩⟩
      rw [← HI.out]
      cases k with
      | zero => omega
      | succ k => simp [runsF, e]
theorem runs_stops (n : Nat) (hn : 1 ≤ n) (Bs : Nat) (s : WSet) (w : World) (hT : Tab w) (h0n : 0 < w.heap.size) (hs : Blk w Bs s) :
    SeqStopsK Fence.wide n Tryd.prog 56 #[.pointer (some ⟨Bs, 0, none⟩)] (fun x : Run => #[Value.agg #[.int .u8 (x.1.1 : Nat), .int .u8 (x.1.2 : Nat)]]) KeepsT (fun ys => ys.map (·.1) = runsOf s) (fun _ => True) 257 w :=
  fun l J Jx W hW hJ _ hY h0 => runs1_in n hn l Bs s J Jx W hJ hY (hT.below hW h0n) (Nat.lt_of_lt_of_le h0n hW.size) (hs.below hW hs.lt) h0
theorem runs_any (a b c d : BitVec 64) (w : World) :
    Calls Tryd.prog 47 #[.agg #[.int .u64 a.toNat, .int .u64 b.toNat, .int .u64 c.toNat, .int .u64 d.toNat]] w fun e w' => e = .returned (.func (.func 56) #[] #[.pointer (some ⟨w.heap.size, 0, none⟩)]) ∧ w' = w.alloc (.cells #[.int .u64 a.toNat, .int .u64 b.toNat, .int .u64 c.toNat, .int .u64 d.toNat] 24) := by
  go_enter Tryd.func47, Tryd.ntmps47
  go_wp2
  go_ret
  exact ⟨rfl, rfl⟩
end Go.Proofs.YtbpnhiejmkeclaaDoor
