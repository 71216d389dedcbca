/-
  The program's own iterator over the pieces of a query that are not empty, for every loop body that leaves its boxes alone; the law of a range over it.
-/
import Derived.Test.YtbbphchhdppipaaDoorUIter
import Derived.BigRegionIn
namespace Go.Proofs.YtbbphchhdppipaaDoor
open Go.RowKit Go.Shelf
attribute [local go_sem] Oper.semAt_some
theorem KA.refl (b : Nat) (W : World) : KA b W W := ⟨Nat.le_refl _, rfl, rfl, rfl⟩
theorem KB.refl (b : Nat) (W : World) : KB b W W := ⟨Nat.le_refl _, rfl, rfl⟩
theorem neL_snoc (pre : List (List UInt8)) (x : List UInt8) : neL (pre ++ [x]) = neL pre ++ if x.isEmpty = true then [] else [x] := by
  unfold neL
  rw [List.filter_append]
  cases x <;> simp
/-- The blocks from M on, as many as the iterator lays, lie as they lay. -/
def KN (M : Nat) (W W' : World) : Prop := W.heap.size ≤ W'.heap.size ∧ ∀ k, M ≤ k → k < M + 6 → k < W.heap.size → W'.heap[k]? = W.heap[k]?
set_option maxRecDepth 100000 in
set_option maxHeartbeats 8000000 in
theorem pieces_in (n : Nat) (hn : 4 ≤ n) (lp bq : Nat) (q : List UInt8) (hl : q.length < 90000) (J : List XL → World → Prop) (W : World)
    (hJ : ∀ pre X X' k, J pre X → X.grownBy X' (some k) → W.heap.size ≤ k → k < W.heap.size + 6 → J pre X')
    (hJN : ∀ pre X X', J pre X → X.grownBy X' none → J pre X')
    (hY : ∀ pre x X, J pre X → pre.length ≤ q.length + 1 → x.length ≤ q.length → W.heap.size + 6 ≤ X.heap.size → YieldAt Fence.wide (n - 1 - 1 - 1) Tryd.prog lp (encX x) X fun e X' => e = .returned (.bool true) ∧ J (pre ++ [x]) X' ∧ KN W.heap.size X X')
    (hs : CBlk 9 W bq [.string ⟨q.toArray⟩]) (h0 : J [] W) :
    CallsIn Fence.wide n Tryd.prog 72 #[.func (.yield lp) #[] #[], .pointer (some ⟨bq, 0, none⟩)] W fun e W' => (∃ v, e = .returned v) ∧ J (neL (cutS [] q)) W' := by
  obtain ⟨W0, hW0⟩ : ∃ W0, W.alloc (.cells #[.func (.yield lp) #[] #[]] 30) = W0 := ⟨_, rfl⟩
  have by0 : CBlk 30 W0 W.heap.size [.func (.yield lp) #[] #[]] := by rw [← hW0]; exact CBlk.new _ W _
  have hq0 : CBlk 9 W0 bq [.string ⟨q.toArray⟩] := by rw [← hW0]; exact hs.alloc _
  have hg0 : W.grownBy W0 none := by rw [← hW0]; exact gr_alloc (World.grownBy.refl _ _) _
  have hs0 : W0.heap.size = W.heap.size + 1 := by rw [← hW0]; simp
  have cq := hq0.cell1
  have HBY := Lib.hid by0
  have H0 := Lib.hid (hJN _ _ _ h0 hg0)
  have HS0 := Lib.hid hs0
  have HJ := Lib.hid hJ
  have HJN := Lib.hid hJN
  have HY := Lib.hid hY
  clear by0 hq0 hg0 hs0 hJ hJN hY hs h0
  refine callsIn_of_wp_marks Tryd.func72 rfl trivial ?_ rfl
  simp only [Tryd.ntmps72, List.size_toArray, List.length_cons, List.length_nil, Nat.reduceAdd, Nat.reduceSub, Array.replicate_succ, Array.replicate_zero, List.push_toArray, List.append_toArray, List.nil_append, List.cons_append]
  gi_upto_region 1 with fail
  try rw [hW0]
  clear hW0
  gi_wp2_with fail
  refine ⟨trivial, fun _ => by omega, (callsIn_wide.2 (splitSeq_any q _)).mono ?_⟩
  rintro e w' ⟨rfl, rfl⟩
  generalize hW4 : ((W0.alloc (.cells #[.string ⟨q.toArray⟩] 9)).alloc (.cells #[.string ⟨#[38]⟩] 9)).alloc (.cells #[.int .i64 0] 3) = W4
  have hgN : W0.grownBy W4 none := by rw [← hW4]; exact gr_alloc (gr_alloc (gr_alloc (World.grownBy.refl _ _) _) _) _
  have hsz4 : W4.heap.size = W0.heap.size + 3 := by rw [← hW4]; simp
  have s0 : CBlk 9 W4 W0.heap.size [.string ⟨q.toArray⟩] := by rw [← hW4]; exact ((CBlk.new _ W0 _).alloc _).alloc _
  have s1 : CBlk 9 W4 (W0.heap.size + 1) [.string ⟨#[38]⟩] := by
    rw [← hW4]
    have := (CBlk.new 9 (W0.alloc (.cells #[.string ⟨q.toArray⟩] 9)) [.string ⟨#[38]⟩]).alloc (.cells #[.int .i64 0] 3)
    simpa using this
  have s2 : CBlk 3 W4 (W0.heap.size + 2) [.int .i64 0] := by
    rw [← hW4]
    have := CBlk.new 3 ((W0.alloc (.cells #[.string ⟨q.toArray⟩] 9)).alloc (.cells #[.string ⟨#[38]⟩] 9)) [.int .i64 0]
    simpa using this
  have b4 := HBY.out.kept hgN (by simp)
  have j4 := HJN.out _ _ _ H0.out hgN
  have HSZ4 := Lib.hid hsz4
  clear hW4 hgN hsz4 cq
  gi_wp2_with fail
  have hs0 := HS0.out
  have hsz4 := HSZ4.out
  refine rangeS (by omega) W0.heap.size q (by omega) rfl rfl s0 s1 s2
    (fun pre X => J (neL pre) X ∧ CBlk 30 X W.heap.size [.func (.yield lp) #[] #[]]) (fun _ _ => False)
    ?hIB ?hIL (fun _ _ _ h _ => h) ⟨j4, b4⟩ ?round ?done (fun _ _ _ _ _ h _ => h.elim)
  case hIB => exact fun pre X X' ⟨h1, h2⟩ hg => ⟨HJ.out _ _ _ _ h1 hg (by omega) (by omega), h2.kept hg (fun e => by injection e; omega)⟩
  case hIL => exact fun pre X X' ⟨h1, h2⟩ hg => ⟨HJ.out _ _ _ _ h1 hg (by omega) (by omega), h2.kept hg (fun e => by injection e; omega)⟩
  case round =>
    clear s0 s1 s2 b4 j4
    rintro pre x X ⟨hj, hbx⟩ hpl hxl hsz
    unfold encX
    gi_wp2
    refine ⟨World.grownBy.refl _ _, ?_⟩
    intro X5 hg5
    have hj5 := HJ.out _ _ _ _ hj hg5 (by omega) (by omega)
    have hbx5 := hbx.kept hg5 (fun e => by injection e; omega)
    have cby := hbx5.cell1
    have hsn := neL_snoc pre x
    have hnl := neL_len pre
    obtain ⟨b, hb⟩ : ∃ b, x.isEmpty = b := ⟨_, rfl⟩
    rw [hb] at hsn
    cases b with
    | true =>
      rw [if_pos rfl, List.append_nil] at hsn
      have HS := Lib.hid hsn
      have HJ5 := Lib.hid hj5
      have HB5 := Lib.hid hbx5
      clear hj hbx hsn hj5 hbx5 hg5
      gi_wp2_with fail
      refine ⟨by simp, ?_⟩
      gi_wp2_with fail
      refine ⟨KB.refl _ _, KA.refl _ _, ?_, HB5.out⟩
      rw [HS.out]
      exact HJ5.out
    | false =>
      rw [if_neg (by simp)] at hsn
      have HS := Lib.hid hsn
      obtain ⟨fn, tmps, assign, body, hy, hR⟩ := HY.out (neL pre) x X5 hj5 (by omega) hxl (by have := hg5.size; omega)
      rw [show encX x = #[.string ⟨x.toArray⟩] from rfl] at hy
      have HR := Lib.hid hR
      have HB5 := Lib.hid hbx5
      have hsz5 := hg5.size
      clear hj hbx hsn hj5 hbx5 hg5 hR
      gi_wp2_with fail
      have hR2 : RoundIn (Fence.wide.inRound (W.heap.size + 1 + 3 + 1)) (n - 1 - 1 - 1) Tryd.prog lp fn tmps assign body X5 (fun e X' => e = .returned (.bool true) ∧ J (neL pre ++ [x]) X' ∧ KN W.heap.size X5 X') := HR.out
      refine ⟨fun _ => by omega, hR2.mono ?_⟩
      rintro e X6 ⟨rfl, hj6, hk6⟩
      have hb6 : CBlk 30 X6 W.heap.size [.func (.yield lp) #[] #[]] := (hk6.2 _ (Nat.le_refl _) (by omega) HB5.out.lt).trans HB5.out
      have HJ6 := Lib.hid hj6
      have HB6 := Lib.hid hb6
      have HK6 := Lib.hid hk6
      clear hj6 hb6 hk6 hy cby
      gi_wp2_with fail
      refine ⟨⟨HK6.out.1, HK6.out.2 _ (by omega) (by omega) (by omega), HK6.out.2 _ (by omega) (by omega) (by omega)⟩, ⟨HK6.out.1, HK6.out.2 _ (by omega) (by omega) (by omega), HK6.out.2 _ (by omega) (by omega) (by omega), HK6.out.2 _ (by omega) (by omega) (by omega)⟩, ?_, HB6.out⟩
      rw [HS.out]
      exact HJ6.out
  case done =>
    clear s0 s1 s2 b4 j4
    rintro X' ⟨hj, hbx⟩ hD
    have HD := Lib.hid hD
    have HJ7 := Lib.hid hj
    clear hD hj hbx hs0 hsz4
    gi_wp2_with fail
    have hs0 := HS0.out
    have hsz4 := HSZ4.out
    have hgp := grownBy_putObj' X' W4.heap.size (.deferred none)
    have hj8 := HJ.out _ _ _ _ HJ7.out hgp (by omega) (by omega)
    refine ⟨by simp, .inl ⟨_, _, rfl, run_takeDeferred HD.out, ?_⟩⟩
    exact ⟨_, results_none rfl _ _ _, ⟨_, rfl⟩, hj8⟩
/-- How a round's body may end: at its end, with the blocks of the loop and of the iterator as they lay. -/
def bodyP (N : Nat) (I : List XL → World → Prop) (xs : List XL) (W : World) : Exit → Act → World → Prop
  | .normal, _, W' => KB N W W' ∧ KN (N + 2) W W' ∧ I xs W'
  | _, _, _ => False
theorem KN.grown {M : Nat} {X Y : World} {row : Option Nat} (h : X.grownBy Y row) (hr : ∀ k, row = some k → k < M) : KN M X Y :=
  ⟨h.size, fun k h1 _ h3 => h.block k h3 (fun e => by have := hr k e.symm; omega)⟩
theorem KN.trans {M : Nat} {X Y Z : World} (h : KN M X Y) (k : KN M Y Z) : KN M X Z :=
  ⟨Nat.le_trans h.1 k.1, fun j h1 h2 h3 => (k.2 j h1 h2 (Nat.lt_of_lt_of_le h3 h.1)).trans (h.2 j h1 h2 h3)⟩
theorem rangeP {n : Nat} (h2 : 5 ≤ n) {g : Operand} {ps : Array Tmp} {assign body : Code} {Q : Exit → Act → World → Prop} {a : Act} {w : World}
    (bq : Nat) (q : List UInt8) (hl : q.length < 90000)
    (hg : a.eval g = .func (.func 72) #[] #[.pointer (some ⟨bq, 0, none⟩)]) (hps : ps.size = 1)
    (hs : CBlk 9 w bq [.string ⟨q.toArray⟩])
    (I : List XL → World → Prop)
    (hI : ∀ pre X X' k, I pre X → X.grownBy X' (some k) → w.heap.size ≤ k → k < w.heap.size + 8 → I pre X') (hIN : ∀ pre X X', I pre X → X.grownBy X' none → I pre X') (h0 : I [] w)
    (hround : ∀ pre x X, I pre X → pre.length ≤ q.length + 1 → x.length ≤ q.length → w.heap.size + 8 ≤ X.heap.size →
      assign.wpIn (Fence.wide.inRound (w.heap.size + 1)) (n - 1 - 1 - 1 - 1) Tryd.prog
        (Exit.then (fun a₁ w₁ => X.grownBy w₁ none ∧ ∀ w₂, w₁.grownBy w₂ (some (w.heap.size + 1)) → body.wpIn (Fence.wide.inRound (w.heap.size + 1)) (n - 1 - 1 - 1 - 1) Tryd.prog (bodyP w.heap.size I (pre ++ [x]) w₂) a₁ w₂) (fun _ _ _ => False))
        { tmps := (ps.zip (encX x)).foldl (fun t (p, v) => t.setIfInBounds p v) a.tmps, defers := [] } X)
    (hdone : ∀ W', I (neL (cutS [] q)) W' → W'.heap[w.heap.size]? = some (.deferred (some [])) →
      Q .normal { a with defers := { target := .collected w.heap.size, args := #[] } :: a.defers } W') :
    (Code.rangeFunc g ps assign body).wpIn Fence.wide n Tryd.prog Q a w := by
  have eg : ∀ args w, (callFunc 72 args).run Tryd.prog w = .ok (.enter 72 args) w := enters_of Tryd.func72 (by kernel_rfl) rfl
  refine wpIn_rangeFunc ?_
  intro fn hfn
  obtain ⟨W1, hW1⟩ : ∃ W1, (w.alloc (.deferred (some []))).alloc (.loop (lrec fn a.tmps ps assign body w.heap.size .ready none)) = W1 := ⟨_, rfl⟩
  have hL1 : W1.heap[w.heap.size + 1]? = some (.loop (lrec fn a.tmps ps assign body w.heap.size .ready none)) := by
    rw [← hW1]
    have := World.alloc_heap_new (w.alloc (.deferred (some []))) (.loop (lrec fn a.tmps ps assign body w.heap.size .ready none))
    rwa [World.size_alloc] at this
  have hK1 : W1.heap[w.heap.size]? = some (.deferred (some [])) := by
    rw [← hW1]
    exact (Below.heap_alloc _ _ _ (by simp)).trans (World.alloc_heap_new w _)
  have hgN : w.grownBy W1 none := by
    rw [← hW1]
    exact gr_alloc (gr_alloc (World.grownBy.refl _ _) _) _
  have hsz1 : W1.heap.size = w.heap.size + 2 := by rw [← hW1]; simp
  refine ⟨w.heap.size + 1, [{ target := .collected w.heap.size, args := #[] }], W1, { target := .fn (.func 72) #[.pointer (some ⟨bq, 0, none⟩)], args := #[.func (.yield (w.heap.size + 1)) #[] #[]] }, W1, 72,
    #[.func (.yield (w.heap.size + 1)) #[] #[], .pointer (some ⟨bq, 0, none⟩)], W1, ?_, ?_, ?_, ?_, fun _ => by omega, ?_⟩
  · rw [← hW1]
    exact run_enterLoop_outer _ _ _ _ _
  · simp only [resolve, hg]
    simp [go_sem]
  · intro f' hf'
    trivial
  · simp [invoke, go_sem, eg]
  · refine (pieces_in (n - 1) (by omega) (w.heap.size + 1) bq q hl
      (fun pre X => I pre X ∧ X.heap[w.heap.size + 1]? = some (.loop (lrec fn a.tmps ps assign body w.heap.size .ready none)) ∧ X.heap[w.heap.size]? = some (.deferred (some [])))
      W1 ?hJ ?hJN ?hY (hs.kept hgN (by simp)) ⟨hIN _ _ _ h0 hgN, hL1, hK1⟩).mono ?post
    case hJ =>
      rintro pre X X' k ⟨hi, hl, hk⟩ hgr h1 h2
      have hlt : w.heap.size + 1 < X.heap.size := (Array.getElem?_eq_some_iff.1 hl).1
      exact ⟨hI _ _ _ _ hi hgr (by omega) (by omega), (hgr.block _ hlt (fun e => by injection e; omega)).trans hl, (hgr.block _ (by omega) (fun e => by injection e; omega)).trans hk⟩
    case hJN =>
      rintro pre X X' ⟨hi, hl, hk⟩ hgr
      have hlt : w.heap.size + 1 < X.heap.size := (Array.getElem?_eq_some_iff.1 hl).1
      exact ⟨hIN _ _ _ hi hgr, (hgr.block _ hlt (by simp)).trans hl, (hgr.block _ (by omega) (by simp)).trans hk⟩
    case hY =>
      rintro pre x X ⟨hi, hl, hk⟩ hpl hxl hsX
      rw [hsz1] at hsX
      rw [hsz1]
      have hlt : w.heap.size + 1 < X.heap.size := (Array.getElem?_eq_some_iff.1 hl).1
      have hy := run_yield (P := Tryd.prog) (args := encX x) hl (by show (encX x).size = ps.size; rw [hps]; rfl)
      refine ⟨fn, _, assign, body, hy, roundIn_of_wpIn hfn ?_⟩
      refine wpIn_mono (hround pre x X hi hpl hxl (by omega)) ?_
      rintro e a₁ w₁ h
      cases e with
      | normal =>
        obtain ⟨hg1, hb⟩ := h
        have hl1 := (hg1.block _ hlt (by simp)).trans hl
        have hk1 := (hg1.block _ (show w.heap.size < X.heap.size by omega) (by simp)).trans hk
        have hlt1 : w.heap.size + 1 < w₁.heap.size := Nat.lt_of_lt_of_le hlt hg1.size
        have hka1 := KN.grown (M := w.heap.size + 2) hg1 (fun k e => by cases e)
        refine ⟨_, run_beginRound hl1 rfl, ?_⟩
        have hp := grownBy_putObj' w₁ (w.heap.size + 1) (.loop { lrec fn a.tmps ps assign body w.heap.size .ready none with state := .busy })
        have hka2 := hka1.trans (KN.grown (M := w.heap.size + 2) hp (fun k e => by injection e; omega))
        refine wpIn_mono (hb _ hp) ?_
        rintro e a3 W3 h3
        cases e with
        | normal =>
          obtain ⟨⟨ks, kd, kl⟩, hkk, hi3⟩ := h3
          have hl3 := kl.trans (World.putObj_heap_same hlt1)
          have hlt3 : w.heap.size + 1 < W3.heap.size := (Array.getElem?_eq_some_iff.1 hl3).1
          have hd3 := kd.trans ((World.putObj_heap_other (by omega)).trans hk1)
          have hp3 := grownBy_putObj' W3 (w.heap.size + 1) (.loop (lrec fn a.tmps ps assign body w.heap.size .ready none))
          exact ⟨_, _, run_endRound (P := Tryd.prog) none hl3, rfl, ⟨hI _ _ _ _ hi3 hp3 (by omega) (by omega), World.putObj_heap_same hlt3, (World.putObj_heap_other (by omega)).trans hd3⟩, (hka2.trans hkk).trans (KN.grown hp3 (fun k e => by injection e; omega))⟩
        | ret => exact h3.elim
        | exit id => exact h3.elim
        | goto t => exact h3.elim
        | panic ch => exact h3.elim
        | outgrown => exact h3.elim
      | exit id => exact h.elim
      | goto t => exact h.elim
      | ret => exact h.elim
      | panic ch => exact h.elim
      | outgrown => exact h.elim
    case post =>
      rintro e W2 ⟨⟨v, rfl⟩, hi, hl, hk⟩
      have hp := grownBy_putObj' W2 (w.heap.size + 1) (.loop { lrec fn a.tmps ps assign body w.heap.size .ready none with state := .exhausted })
      exact ⟨none, _, run_endLoop (P := Tryd.prog) hl (by simp [lrec]), hdone _ (hI _ _ _ _ hi hp (by omega) (by omega)) ((World.putObj_heap_other (by omega)).trans hk)⟩
end Go.Proofs.YtbbphchhdppipaaDoor
