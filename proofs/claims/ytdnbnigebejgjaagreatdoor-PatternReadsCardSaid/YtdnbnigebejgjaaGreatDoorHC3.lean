/-
  pattern.behind for any nodes: what is behind a node with all that is below it, or that something is wrong.
  A range over an iterator that makes memory of its own (as one that calls itself): the body keeps what was made since the range began.
-/
import Derived.Test.YtdnbnigebejgjaaGreatDoorHC2
namespace Go.Proofs.YtdnbnigebejgjaaGreatDoor
open Go.RowKit Go.Shelf
theorem wide_fn (f : FuncId) : Fence.wide.fn f = True := rfl
attribute [local go_sem] Oper.semAt_some Oper.askedIn wide_fn
theorem chn_zero {L : List ND} {F : Nat} {k : Int} : (chn L F k).getD 0 (-1) = k := by
  by_cases h : k = -1
  · rw [h, chn_none]; rfl
  · obtain ⟨r, hr⟩ := chn_some (L := L) (f := F) h
    rw [hr]; rfl
theorem chn_succ (L : List ND) : ∀ (F : Nat) (k : Int) (j : Nat), j < (chn L F k).length → ¬ BadK L F (chn L F k) j → (chn L F k).getD (j + 1) (-1) = (L.getD ((chn L F k).getD j (-1)).toNat (bare 0 .empty 0)).next
  | 0, k, j, hj, hb => by
    unfold BadK at hb
    have := (Classical.not_not.1 hb).2.2
    omega
  | f + 1, k, j, hj, hb => by
    unfold BadK at hb
    obtain ⟨h1, h2, h3⟩ := Classical.not_not.1 hb
    by_cases hk : k = -1
    · rw [hk, chn_none] at hj; simp at hj
    · by_cases hin : 0 ≤ k ∧ k < (L.length : Int)
      · rw [chn_next hin.1 hin.2] at h1 h2 hj ⊢
        cases j with
        | zero =>
          show (chn L f _).getD 0 (-1) = _
          rw [chn_zero]
          rfl
        | succ j =>
          have := chn_succ L f ((L.getD k.toNat (bare 0 .empty 0)).next) j (by simpa using hj) (by
            unfold BadK
            intro h
            exact h ⟨h1, h2, by omega⟩)
          exact this
      · have e : chn L (f + 1) k = [k] := by unfold chn; rw [if_neg hk, if_neg hin]
        rw [e] at h1 h2 hj
        have hj0 : j = 0 := by simpa using hj
        subst hj0
        exact (hin ⟨h1, h2⟩).elim
theorem chn_end {L : List ND} {F : Nat} {k : Int} : (chn L F k).getD (chn L F k).length (-1) = -1 := by
  rw [List.getD_eq_getElem?_getD, List.getElem?_eq_none (Nat.le_refl _)]; rfl
theorem ndV_cells {w : World} {b off : Nat} {L : List ND} (h : NdsIn w (some ⟨b, off, none⟩) L) {i : Nat} (hi : i < L.length) :
    w.cell? ⟨b, off + i * 9, none⟩ = some (.int .i64 L[i].kind) ∧ w.cell? ⟨b, off + i * 9 + 1, none⟩ = some (.int .i64 L[i].times) ∧ w.cell? ⟨b, off + i * 9 + 2, none⟩ = some (.int .u64 (L[i].set.a.toNat : Int)) ∧ w.cell? ⟨b, off + i * 9 + 3, none⟩ = some (.int .u64 (L[i].set.b.toNat : Int)) ∧ w.cell? ⟨b, off + i * 9 + 4, none⟩ = some (.int .u64 (L[i].set.c.toNat : Int)) ∧ w.cell? ⟨b, off + i * 9 + 5, none⟩ = some (.int .u64 (L[i].set.d.toNat : Int)) ∧ w.cell? ⟨b, off + i * 9 + 6, none⟩ = some (.int .i64 L[i].group) ∧ w.cell? ⟨b, off + i * 9 + 7, none⟩ = some (.int .i64 L[i].first) ∧ w.cell? ⟨b, off + i * 9 + 8, none⟩ = some (.int .i64 L[i].next) :=
  ⟨nd_cells h hi 0 (by omega), nd_cells h hi 1 (by omega), nd_cells h hi 2 (by omega), nd_cells h hi 3 (by omega), nd_cells h hi 4 (by omega), nd_cells h hi 5 (by omega), nd_cells h hi 6 (by omega), nd_cells h hi 7 (by omega), nd_cells h hi 8 (by omega)⟩
theorem res1 {t : TypeId} {w : World} {B : Nat} {v : Value} (h1 : CBlk t w B [v]) {fn : Func} {p : Tmp} (h : fn.results = #[.cell p t]) (tmps : Array Value)
    (hp : tmps.getD p undef = .pointer (some ⟨B, 0, none⟩)) (ht : ∀ w, (isAgg t).run Tryz.prog w = .ok false w) : (Go.results fn tmps).run Tryz.prog w = .ok v w := by
  have hp' : tmps[p]?.getD undef = .pointer (some ⟨B, 0, none⟩) := by simpa using hp
  have c0 := h1.cell1
  simp [Go.results, h, hp', asAddr, go_sem, c0, ht]
theorem chn_ne {L : List ND} : ∀ {F : Nat} {k : Int} {j : Nat}, j < (chn L F k).length → (chn L F k).getD j (-1) ≠ -1
  | 0, k, j, hj => by
    unfold chn at hj ⊢
    split at hj
    · simp at hj
    · rename_i h
      rw [if_neg h]
      have : j = 0 := by simpa using hj
      subst this
      exact h
  | f + 1, k, j, hj => by
    unfold chn at hj ⊢
    split at hj
    · simp at hj
    · rename_i h
      rw [if_neg h]
      split at hj
      · rename_i h2
        rw [if_pos h2]
        cases j with
        | zero => exact h
        | succ j => exact chn_ne (by simpa using hj)
      · rename_i h2
        rw [if_neg h2]
        have : j = 0 := by simpa using hj
        subst this
        exact h
theorem intE_at (c : List Int) (j : Nat) (hj : j < (intE c).length) : (intE c)[j] = #[.int .i64 (c.getD j (-1))] := by
  have hc : j < c.length := by rw [show (intE c).length = c.length from List.length_map _] at hj; exact hj
  have h : (intE c)[j]? = some #[.int .i64 (c.getD j (-1))] := by
    unfold intE
    rw [List.getElem?_map, List.getElem?_eq_getElem hc, List.getD_eq_getElem?_getD, List.getElem?_eq_getElem hc]
    rfl
  rw [List.getElem?_eq_getElem hj] at h
  injection h
theorem kl_a {L : List ND} {f : Nat} {kd k : Int} {nx : Nat} (h1 : k ≠ -1) (h2 : k ≠ (nx : Int) ∨ L.length ≤ nx) : kl L f kd nx k = none := by
  cases f with
  | zero => exact if_neg h1
  | succ f =>
    unfold kl
    rw [if_neg h1]
    split
    · rename_i h
      rw [if_neg (fun e => by rcases h2 with h2 | h2; exact h2 e.1; omega)]
    · rfl
theorem kl_c {L : List ND} {f : Nat} {kd : Int} {nx : Nat} (h : nx < L.length) (h2 : mayB kd L[nx].kind = false) : kl L f kd nx (nx : Int) = none := by
  cases f with
  | zero => exact if_neg (by omega)
  | succ f =>
    unfold kl
    rw [if_neg (by omega), dif_pos h, if_neg (fun e => by rw [h2] at e; cases e.2.1)]
theorem kl_d {L : List ND} {f : Nat} {kd : Int} {nx : Nat} (h : nx < L.length) (h2 : mayB kd L[nx].kind = true) : kl L (f + 1) kd nx (nx : Int) = match beh L f nx with
    | none => none
    | some k2 => kl L f kd k2 L[nx].next := by
  rw [kl, if_neg (by omega), dif_pos h]
  unfold beh
  rw [dif_pos h]
  by_cases hs : sndB L[nx] = true
  · rw [if_pos ⟨rfl, h2, hs⟩, if_pos hs]
    cases kl L f L[nx].kind (nx + 1) L[nx].first <;> rfl
  · rw [if_neg (fun e => hs e.2.2), if_neg hs]
/-- How a child's number stands between two rounds. -/
def BI (L : List ND) (f at_ : Nat) (nd : ND) (N nb : Nat) (v : Value) (W : World) (j : Nat) (X : World) : Prop :=
  ∃ f' nx : Nat, f' ≤ f ∧ kl L f nd.kind (at_ + 1) nd.first = kl L f' nd.kind nx ((chn L (L.length + 1) nd.first).getD j (-1)) ∧ L.length ≤ nx + f' ∧ at_ + 1 + j ≤ nx ∧ nx ≤ L.length ∧
    CBlk 23 X N [v] ∧ CBlk 3 X (N + 1) [.int .i64 (at_ : Int)] ∧ CBlk 3 X (N + 1 + 1) [.int .i64 0] ∧ CBlk 3 X nb [.int .i64 (nx : Int)] ∧ Below N W X ∧ nb + 3 ≤ X.heap.size
def BX (r : Option Nat) (N : Nat) (W : World) (X : World) : Prop := r = none ∧ CBlk 3 X (N + 1 + 1) [.int .i64 (-1)] ∧ Below N W X
set_option maxHeartbeats 8000000 in
set_option maxRecDepth 100000 in
theorem behind_step (L : List ND) (hL : L.length < 1000000000) (b off cap : Nat) (f : Nat)
    (ih : ∀ f' n at_ W, f' < f → at_ < L.length → L.length ≤ at_ + 1 + f' → NdsIn W (some ⟨b, off, none⟩) L → b < W.heap.size →
      CallsIn Fence.wide n Tryz.prog 61 #[.slice (some ⟨b, off, none⟩) L.length cap, .int .i64 (at_ : Int)] W fun e w' => e = .returned (.int .i64 (optI (beh L f' at_))) ∧ Below W.heap.size W w')
    (n at_ : Nat) (W : World) (hat : at_ < L.length) (hf : L.length ≤ at_ + 1 + f) (hN : NdsIn W (some ⟨b, off, none⟩) L) (hb : b < W.heap.size) :
    CallsIn Fence.wide n Tryz.prog 61 #[.slice (some ⟨b, off, none⟩) L.length cap, .int .i64 (at_ : Int)] W fun e w' => e = .returned (.int .i64 (optI (beh L f at_))) ∧ Below W.heap.size W w' := by
  have hBe : beh L f at_ = if sndB L[at_] = true then kl L f L[at_].kind (at_ + 1) L[at_].first else none := dif_pos hat
  have HBE := Lib.hid hBe
  have HIH := Lib.hid ih
  have hb1 : (at_ : Int) < (L.length : Int) := by omega
  clear ih hBe
  obtain ⟨nd, hnd⟩ : ∃ nd, L[at_] = nd := ⟨_, rfl⟩
  have hc := ndV_cells hN hat
  rw [hnd] at HBE hc
  refine callsIn_of_wp_marks Tryz.func61 rfl trivial ?_ rfl
  simp only [Tryz.ntmps61, List.size_toArray, List.length_cons, List.length_nil, Nat.reduceAdd, Nat.reduceSub, Array.replicate_succ, Array.replicate_zero, List.push_toArray, List.append_toArray, List.nil_append, List.cons_append]
  gi_upto_region 1 with fail
  generalize hW0 : ((W.alloc (.cells #[.slice (some ⟨b, off, none⟩) L.length cap] 23)).alloc (.cells #[.int .i64 (at_ : Int)] 3)).alloc (.cells #[.int .i64 0] 3) = W0
  have s0 : CBlk 23 W0 W.heap.size [.slice (some ⟨b, off, none⟩) L.length cap] := by rw [← hW0]; exact ((CBlk.new _ W _).alloc _).alloc _
  have s1 : CBlk 3 W0 (W.heap.size + 1) [.int .i64 (at_ : Int)] := by
    rw [← hW0]
    have := (CBlk.new 3 (W.alloc (.cells #[.slice (some ⟨b, off, none⟩) L.length cap] 23)) [.int .i64 (at_ : Int)]).alloc (.cells #[.int .i64 0] 3)
    rwa [World.size_alloc] at this
  have s2 : CBlk 3 W0 (W.heap.size + 1 + 1) [.int .i64 0] := by
    rw [← hW0]
    have := CBlk.new 3 ((W.alloc (.cells #[.slice (some ⟨b, off, none⟩) L.length cap] 23)).alloc (.cells #[.int .i64 (at_ : Int)] 3)) [.int .i64 0]
    rwa [World.size_alloc, World.size_alloc] at this
  have hB0 : Below W.heap.size W W0 := by rw [← hW0]; exact (((Below.refl _ W).alloc (Nat.le_refl _) _).alloc (by simp) _).alloc (by simp; omega) _
  have hz0 : W0.heap.size = W.heap.size + 3 := by rw [← hW0]; simp
  have hN0 : NdsIn W0 (some ⟨b, off, none⟩) L := CellsIn.below hN hB0 (Nat.le_refl _)
  clear hW0
  have t0 := s0.cell1
  have t1 := s1.cell1
  have hc0 := ndV_cells hN0 hat
  rw [hnd] at hc0
  obtain ⟨c0, c1, c2, c3, c4, c5, c6, c7, c8⟩ := hc0
  clear hc
  gi_wp2_with fail
  refine ⟨(fun h => by cases h), (callsIn_wide.2 (isSound_any nd _)).mono ?_⟩
  rintro e w1 ⟨rfl, hB1⟩
  have r0 := s0.below hB1 s0.lt
  have r1 := s1.below hB1 s1.lt
  have r2 := s2.below hB1 s2.lt
  have hBW : Below W.heap.size W w1 := hB0.trans (hB1.mono (by omega))
  have hN1 : NdsIn w1 (some ⟨b, off, none⟩) L := CellsIn.below hN0 hB1 (Nat.le_refl _)
  have hz1 := hB1.size
  clear s0 s1 s2 t0 t1 c0 c1 c2 c3 c4 c5 c6 c7 c8 hB0 hN0
  have t0 := r0.cell1
  have t1 := r1.cell1
  have t2 := r2.cell1
  have f2 := r2.free 0
  obtain ⟨q, hq⟩ : ∃ q, sndB nd = q := ⟨_, rfl⟩
  cases q with
  | false =>
    have HE : Hid (beh L f at_ = none) := Lib.hid (HBE.out.trans (if_neg (by rw [hq]; simp)))
    rw [hq]
    gi_wp2_with fail
    have r3 : CBlk 3 (w1.setCell ⟨W.heap.size + 1 + 1, 0, none⟩ (.int .i64 (-1))) (W.heap.size + 1 + 1) [.int .i64 (-1)] := r2.set 0 _
    exact ⟨_, res1 r3 rfl _ rfl Tryz.isAgg3, by rw [HE.out]; rfl, hBW.setCell (p := ⟨W.heap.size + 1 + 1, 0, none⟩) (by show W.heap.size ≤ W.heap.size + 1 + 1; omega) _⟩
  | true =>
    have HE : Hid (beh L f at_ = kl L f nd.kind (at_ + 1) nd.first) := Lib.hid (HBE.out.trans (if_pos hq))
    have ww : IntKind.i64.wrap ((at_ : Int) + 1) = (at_ : Int) + 1 := jwrap (by omega) (by omega)
    have l0 := r0.lt
    have l1 := r1.lt
    rw [hq]
    gi_wp2_with fail
    refine ⟨(fun h => by cases h), (callsIn_wide.2 (children_any _ _ _ _ _)).mono ?_⟩
    rintro e w' ⟨rfl, rfl⟩
    generalize hX3 : ((w1.alloc (.cells #[.int .i64 ((at_ : Int) + 1)] 3)).alloc (.cells #[.slice (some ⟨b, off, none⟩) L.length cap] 23)).alloc (.cells #[.int .i64 (at_ : Int)] 3) = X3
    have g0 := ((r0.alloc (.cells #[.int .i64 ((at_ : Int) + 1)] 3)).alloc (.cells #[.slice (some ⟨b, off, none⟩) L.length cap] 23)).alloc (.cells #[.int .i64 (at_ : Int)] 3)
    have g1 := ((r1.alloc (.cells #[.int .i64 ((at_ : Int) + 1)] 3)).alloc (.cells #[.slice (some ⟨b, off, none⟩) L.length cap] 23)).alloc (.cells #[.int .i64 (at_ : Int)] 3)
    have g2 := ((r2.alloc (.cells #[.int .i64 ((at_ : Int) + 1)] 3)).alloc (.cells #[.slice (some ⟨b, off, none⟩) L.length cap] 23)).alloc (.cells #[.int .i64 (at_ : Int)] 3)
    have g3 : CBlk 3 X3 w1.heap.size [.int .i64 ((at_ : Int) + 1)] := by rw [← hX3]; exact ((CBlk.new _ w1 _).alloc _).alloc _
    have g4 : CBlk 23 X3 (w1.heap.size + 1) [.slice (some ⟨b, off, none⟩) L.length cap] := by
      rw [← hX3]
      have := (CBlk.new 23 (w1.alloc (.cells #[.int .i64 ((at_ : Int) + 1)] 3)) [.slice (some ⟨b, off, none⟩) L.length cap]).alloc (.cells #[.int .i64 (at_ : Int)] 3)
      rwa [World.size_alloc] at this
    have g5 : CBlk 3 X3 (w1.heap.size + 1 + 1) [.int .i64 (at_ : Int)] := by
      rw [← hX3]
      have := CBlk.new 3 ((w1.alloc (.cells #[.int .i64 ((at_ : Int) + 1)] 3)).alloc (.cells #[.slice (some ⟨b, off, none⟩) L.length cap] 23)) [.int .i64 (at_ : Int)]
      rwa [World.size_alloc, World.size_alloc] at this
    rw [hX3] at g0 g1 g2
    have hB3 : Below W.heap.size W X3 := by rw [← hX3]; exact ((hBW.alloc (by omega) _).alloc (by simp; omega) _).alloc (by simp; omega) _
    have hz3 : X3.heap.size = w1.heap.size + 3 := by rw [← hX3]; simp
    have hN3 : NdsIn X3 (some ⟨b, off, none⟩) L := CellsIn.below hN hB3 (Nat.le_refl _)
    clear hX3 r0 r1 r2 t0 t1 t2 f2 hN1 l0 l1 hB1
    gi_wp2_with fail
    refine rangeL (st := false) (fid := 66) (lb := #[.pointer (some ⟨w1.heap.size + 1, 0, none⟩), .pointer (some ⟨w1.heap.size + 1 + 1, 0, none⟩)]) (E := intE (chn L (L.length + 1) nd.first)) (Bad := BadK L (L.length + 1) (chn L (L.length + 1) nd.first)) (ks := fun k => k < W.heap.size ∨ k = w1.heap.size + 1 ∨ k = w1.heap.size + 1 + 1)
      rfl (enters_of Tryz.func66 (by kernel_rfl) rfl) (fun j hj => by simp [intE]) ?iter (fun k hk => by omega)
      (BI L f at_ nd W.heap.size w1.heap.size (.slice (some ⟨b, off, none⟩) L.length cap) W) (BX (beh L f at_) W.heap.size W) ?hI ?hIx ?h0 ?round ?done ?stop
    case iter =>
      have := children_iter L (L.length + 1) at_ hat b off cap (w1.heap.size + 1) (w1.heap.size + 1 + 1) (fun k => k < W.heap.size ∨ k = w1.heap.size + 1 ∨ k = w1.heap.size + 1 + 1) X3 hN3 g4 g5 (.inl hb) (.inr (.inl rfl)) (.inr (.inr rfl))
      rw [hnd] at this
      exact this
    case hI =>
      rintro j X X' row ⟨f', nx, x1, x2, x3, x4, x5, y0, y1, y2, y3, y4, y5⟩ hg hr
      have hne : ∀ k, k < w1.heap.size + 3 → some k ≠ row := fun k hk e => by have := (hr k e.symm).1; omega
      exact ⟨f', nx, x1, x2, x3, x4, x5, y0.kept hg (hne _ (by omega)), y1.kept hg (hne _ (by omega)), y2.kept hg (hne _ (by omega)), y3.kept hg (hne _ (by omega)), y4.grown hg (by omega) (fun r e => by have := (hr r e).1; omega), Nat.le_trans y5 hg.size⟩
    case hIx =>
      rintro X X' row ⟨x1, y2, y4⟩ hg hr
      have hne : ∀ k, k < w1.heap.size + 3 → some k ≠ row := fun k hk e => by have := (hr k e.symm).1; omega
      exact ⟨x1, y2.kept hg (hne _ (by omega)), y4.grown hg (by have := y4.size; omega) (fun r e => by have := (hr r e).1; omega)⟩
    case h0 =>
      exact ⟨f, at_ + 1, Nat.le_refl _, by rw [chn_zero], by omega, by omega, by omega, g0, g1, g2, g3, hB3, by omega⟩
    case done =>
      rintro X ⟨f', nx, x1, x2, x3, x4, x5, y0, y1, y2, y3, y4, y5⟩ hz hD
      rw [show (intE (chn L (L.length + 1) nd.first)).length = (chn L (L.length + 1) nd.first).length from List.length_map _, chn_end] at x2
      have hres : beh L f at_ = some nx := by
        rw [HE.out, x2]
        cases f' <;> rfl
      have HRS := Lib.hid hres
      have HD := Lib.hid hD
      have Y2 := Lib.hid y2
      have Y4 := Lib.hid y4
      have Y3 := Lib.hid y3
      have c0 := y3.cell1
      have c2 := y2.cell1
      have fz2 := y2.free 0
      clear g0 g1 g2 g3 g4 g5 hB3 x1 x2 x3 x4 x5 hres hD y0 y1 y2 y3 y4 hN3
      gi_wp2_with fail
      have hb1 := Y2.out.set 0 (.int .i64 (nx : Int))
      have hB1 := Y4.out.setCell (p := ⟨W.heap.size + 1 + 1, 0, none⟩) (by show W.heap.size ≤ W.heap.size + 1 + 1; omega) (.int .i64 (nx : Int))
      have hD1 : (X.setCell ⟨W.heap.size + 1 + 1, 0, none⟩ (.int .i64 (nx : Int))).heap[X3.heap.size]? = some (.deferred (some [])) := (Below.heap_setCell _ _ _ _ (by show X3.heap.size ≠ W.heap.size + 1 + 1; omega)).trans HD.out
      have hgp := grownBy_putObj' (X.setCell ⟨W.heap.size + 1 + 1, 0, none⟩ (.int .i64 (nx : Int))) X3.heap.size (.deferred none)
      refine ⟨by simp, .inl ⟨_, _, rfl, run_takeDeferred hD1, ?_⟩⟩
      refine ⟨_, res1 (hb1.kept hgp (fun e => by injection e; omega)) rfl _ rfl Tryz.isAgg3, by rw [HRS.out]; rfl, hB1.grown hgp (by have := hB1.size; omega) (fun r hr => by injection hr; omega)⟩
    case stop =>
      rintro X ⟨x1, y2, y4⟩ hD
      have HRS := Lib.hid x1
      have HD := Lib.hid hD
      have Y2 := Lib.hid y2
      have Y4 := Lib.hid y4
      clear g0 g1 g2 g3 g4 g5 hB3 x1 hD y2 y4 hN3
      gi_wp2_with fail
      have hgp := grownBy_putObj' X X3.heap.size (.deferred none)
      refine ⟨by simp, .inl ⟨_, _, rfl, run_takeDeferred HD.out, ?_⟩⟩
      refine ⟨_, res1 (Y2.out.kept hgp (fun e => by injection e; omega)) rfl _ rfl Tryz.isAgg3, by rw [HRS.out]; rfl, Y4.out.grown hgp (by have := Y4.out.size; omega) (fun r hr => by injection hr; omega)⟩
    case round =>
      rintro j hj m X hBI hz
      have hjc : j < (chn L (L.length + 1) nd.first).length := by rw [show (intE (chn L (L.length + 1) nd.first)).length = (chn L (L.length + 1) nd.first).length from List.length_map _] at hj; exact hj
      obtain ⟨k, hk⟩ : ∃ k, (chn L (L.length + 1) nd.first).getD j (-1) = k := ⟨_, rfl⟩
      have hEj : (intE (chn L (L.length + 1) nd.first))[j] = #[.int .i64 k] := by rw [intE_at, hk]
      rw [hEj]
      have hk1 : k ≠ -1 := by rw [← hk]; exact chn_ne hjc
      have hsucc := chn_succ L (L.length + 1) nd.first j hjc
      rw [hk] at hsucc
      have HSU := Lib.hid hsucc
      have HBI := Lib.hid hBI
      have HK := Lib.hid hk
      clear g0 g1 g2 g3 g4 g5 hB3 hN3 hj hjc hEj hsucc hBI hk
      gi_wp2
      refine ⟨trivial, ?_⟩
      intro X2 hg2
      obtain ⟨f', nx, x1, x2, x3, x4, x5, z0, z1, z2, z3, z4, z5⟩ := HBI.out
      have hne : ∀ k, k < w1.heap.size + 3 → some k ≠ some (X3.heap.size + 1) := fun k hk e => by injection e; omega
      have y0 := z0.kept hg2 (hne _ (by omega))
      have y1 := z1.kept hg2 (hne _ (by omega))
      have y2 := z2.kept hg2 (hne _ (by omega))
      have y3 := z3.kept hg2 (hne _ (by omega))
      have y4 := z4.grown hg2 (by have := z4.size; omega) (fun r e => by injection e; omega)
      have y5 := Nat.le_trans z5 hg2.size
      have hN2 : NdsIn X2 (some ⟨b, off, none⟩) L := CellsIn.below hN y4 (Nat.le_refl _)
      rw [HK.out] at x2
      have u0 := y0.cell1
      have u1 := y1.cell1
      have u2 := y2.cell1
      have u3 := y3.cell1
      have fz2 := y2.free 0
      have fz3 := y3.free 0
      have hg2s := hg2.size
      clear z0 z1 z2 z3 z4 z5 hg2
      by_cases ha : k = (nx : Int)
      · have hlt5 : j < L.length + 1 := by omega
        by_cases hb2 : nx < L.length
        · subst ha
          have b1 : decide (L.length ≤ nx) = false := decide_eq_false (by omega)
          have b2 : (nx : Int) < (L.length : Int) := by omega
          obtain ⟨c0, c1, c2, c3, c4, c5, c6, c7, c8⟩ := ndV_cells hN2 hb2
          obtain ⟨d0, d1, d2, d3, d4, d5, d6, d7, d8⟩ := ndV_cells hN2 hat
          rw [hnd] at d0
          obtain ⟨q, hq⟩ : ∃ q, mayB nd.kind L[nx].kind = q := ⟨_, rfl⟩
          have HSUC : Hid (¬ BadK L (L.length + 1) (chn L (L.length + 1) nd.first) j ∧ (chn L (L.length + 1) nd.first).getD (j + 1) (-1) = L[nx].next) := Lib.hid (by
            have hnb : ¬ BadK L (L.length + 1) (chn L (L.length + 1) nd.first) j := by
              unfold BadK
              rw [HK.out]
              exact fun h => h ⟨by omega, by omega, hlt5⟩
            refine ⟨hnb, ?_⟩
            rw [HSU.out hnb, Int.toNat_natCast, List.getD_eq_getElem?_getD, List.getElem?_eq_getElem hb2]
            rfl)
          cases q with
          | false =>
            have HN : Hid (beh L f at_ = none) := Lib.hid (by rw [HE.out, x2]; exact kl_c hb2 hq)
            have hMH : ∀ w, Calls Tryz.prog 88 #[.int .i64 nd.kind, .int .i64 L[nx].kind] w fun e w' => e = .returned (.bool false) ∧ w' = w := fun w => hq ▸ mayHold_any nd.kind L[nx].kind w
            have HMH := Lib.hid hMH
            clear x1 x2 x3 x4 x5 hMH hq d1 d2 d3 d4 d5 d6 d7 d8 c1 c2 c3 c4 c5 c6 c7 c8
            gi_wp2_with fail
            refine quiet_round rfl (by kernel_rfl) (by kernel_rfl) (by kernel_rfl) ?_
            gi_big_quiet_step ((refine ⟨(fun h => by cases h), (callsIn_wide.2 (HMH.out _)).mono ?_⟩; rintro _ _ ⟨h1, h2⟩; exact ⟨h1, _, h2⟩))
            repeat (gi_big_quiet_step ((refine ⟨(fun h => by cases h), (callsIn_wide.2 (HMH.out _)).mono ?_⟩; rintro _ _ ⟨h1, h2⟩; exact ⟨h1, _, h2⟩)))
            refine wpQuietIn_nil ?_
            intro _ hw'
            obtain ⟨nq, rfl⟩ := hw'
            have hbn : Below X2.heap.size X2 (X2.drewN nq) := below_drewN (Below.refl _ _) nq
            generalize hY : X2.drewN nq = Y at hbn ⊢
            clear hY
            have y0 := y0.below hbn y0.lt
            have y1 := y1.below hbn y1.lt
            have y2 := y2.below hbn y2.lt
            have y3 := y3.below hbn y3.lt
            have y4 := y4.trans (hbn.mono y4.size)
            have hN2 : NdsIn Y (some ⟨b, off, none⟩) L := CellsIn.below hN y4 (Nat.le_refl _)
            have hRK : RecK X3.heap.size X2 Y := RecK.below hbn (by have := hg2s; omega)
            have hKY : KeepsAt (fun k => k < W.heap.size ∨ k = w1.heap.size + 1 ∨ k = w1.heap.size + 1 + 1) X2 Y := KeepsAt.below hbn (fun k hk => by have := hg2s; have := y5; omega)
            have hYs := hbn.size
            clear u0 u1 u2 u3 fz2 fz3
            have u0 := y0.cell1
            have u1 := y1.cell1
            have u2 := y2.cell1
            have u3 := y3.cell1
            have fz2 := y2.free 0
            have fz3 := y3.free 0
            gi_wp2_with fail
            exact ⟨hRK.trans (RecK.grown (jgset Y (W.heap.size + 1 + 1) 0 _) (by omega) (fun r e => by injection e; omega)), HN.out, y2.set 0 _, y4.setCell (p := ⟨W.heap.size + 1 + 1, 0, none⟩) (by show W.heap.size ≤ W.heap.size + 1 + 1; omega) _⟩
          | true =>
            obtain ⟨f'', rfl⟩ : ∃ f'', f' = f'' + 1 := ⟨f' - 1, by omega⟩
            have x6 : kl L f nd.kind (at_ + 1) nd.first = match beh L f'' nx with
                | none => none
                | some k2 => kl L f'' nd.kind k2 L[nx].next := by rw [x2]; exact kl_d hb2 hq
            have hMH : ∀ w, Calls Tryz.prog 88 #[.int .i64 nd.kind, .int .i64 L[nx].kind] w fun e w' => e = .returned (.bool true) ∧ w' = w := fun w => hq ▸ mayHold_any nd.kind L[nx].kind w
            have HMH := Lib.hid hMH
            have HIB := Lib.hid fun n W' h1 h2 => HIH.out f'' n nx W' (by omega) hb2 (by omega) h1 h2
            obtain ⟨R, hR⟩ : ∃ R, beh L f'' nx = R := ⟨_, rfl⟩
            rw [hR] at x6 HIB
            have hge : ∀ k2, R = some k2 → nx + 1 ≤ k2 ∧ k2 ≤ L.length := by
              intro k2 e
              rw [e] at hR
              unfold beh at hR
              rw [dif_pos hb2] at hR
              split at hR
              · have := kl_ge L _ _ _ _ _ hR
                omega
              · cases hR
            have HGE := Lib.hid hge
            have HX6 := Lib.hid x6
            have HX1 := Lib.hid (And.intro x1 (And.intro x3 x4))
            clear hMH hq d1 d2 d3 d4 d5 d6 d7 d8 c1 c2 c3 c4 c5 c6 c7 c8 x1 x2 x3 x4 x5 x6 hR hge
            gi_wp2_with fail
            refine quiet_round rfl (by kernel_rfl) (by kernel_rfl) (by kernel_rfl) ?_
            gi_big_quiet_step ((refine ⟨(fun h => by cases h), (callsIn_wide.2 (HMH.out _)).mono ?_⟩; rintro _ _ ⟨h1, h2⟩; exact ⟨h1, _, h2⟩))
            repeat (gi_big_quiet_step ((refine ⟨(fun h => by cases h), (callsIn_wide.2 (HMH.out _)).mono ?_⟩; rintro _ _ ⟨h1, h2⟩; exact ⟨h1, _, h2⟩)))
            refine wpQuietIn_nil ?_
            intro _ hw'
            obtain ⟨nq, rfl⟩ := hw'
            have hbn : Below X2.heap.size X2 (X2.drewN nq) := below_drewN (Below.refl _ _) nq
            generalize hY : X2.drewN nq = Y at hbn ⊢
            clear hY
            have y0 := y0.below hbn y0.lt
            have y1 := y1.below hbn y1.lt
            have y2 := y2.below hbn y2.lt
            have y3 := y3.below hbn y3.lt
            have y4 := y4.trans (hbn.mono y4.size)
            have hN2 : NdsIn Y (some ⟨b, off, none⟩) L := CellsIn.below hN y4 (Nat.le_refl _)
            have hRK : RecK X3.heap.size X2 Y := RecK.below hbn (by have := hg2s; omega)
            have hKY : KeepsAt (fun k => k < W.heap.size ∨ k = w1.heap.size + 1 ∨ k = w1.heap.size + 1 + 1) X2 Y := KeepsAt.below hbn (fun k hk => by have := hg2s; have := y5; omega)
            have hYs := hbn.size
            clear u0 u1 u2 u3 fz2 fz3
            have u0 := y0.cell1
            have u1 := y1.cell1
            have u2 := y2.cell1
            have u3 := y3.cell1
            have fz2 := y2.free 0
            have fz3 := y3.free 0
            gi_wp2_with fail
            refine ⟨(fun h => by cases h), (CallsIn.inRound _ (HIB.out _ _ hN2 (by have := y4.size; omega))).mono ?_⟩
            rintro e Z ⟨rfl, hbz⟩
            have y0 := y0.below hbz y0.lt
            have y1 := y1.below hbz y1.lt
            have y2 := y2.below hbz y2.lt
            have y3 := y3.below hbz y3.lt
            have y4 := y4.trans (hbz.mono y4.size)
            have hRK := hRK.trans (RecK.below hbz (by omega))
            have hKY := hKY.trans (KeepsAt.below hbz (fun k hk => by omega))
            have hZs := hbz.size
            clear u0 u1 u2 u3 fz2 fz3
            have u0 := y0.cell1
            have u1 := y1.cell1
            have u2 := y2.cell1
            have u3 := y3.cell1
            have fz2 := y2.free 0
            have fz3 := y3.free 0
            cases R with
            | none =>
              have HN : Hid (beh L f at_ = none) := Lib.hid (by rw [HE.out, HX6.out])
              have hoI : optI none = -1 := rfl
              rw [hoI]
              gi_wp2_with fail
              have e3 := y3.set 0 (.int .i64 (-1))
              have e2 := y2.other ⟨w1.heap.size, 0, none⟩ (by show w1.heap.size ≠ _; omega) (.int .i64 (-1))
              exact ⟨(hRK.trans (RecK.grown (jgset Z w1.heap.size 0 _) (by omega) (fun r e => by injection e; omega))).trans (RecK.grown (jgset _ (W.heap.size + 1 + 1) 0 _) (by simp [World.setCell]; omega) (fun r e => by injection e; omega)), HN.out, e2.set 0 _,
                (y4.setCell (p := ⟨w1.heap.size, 0, none⟩) (by show W.heap.size ≤ w1.heap.size; omega) _).setCell (p := ⟨W.heap.size + 1 + 1, 0, none⟩) (by show W.heap.size ≤ W.heap.size + 1 + 1; omega) _⟩
            | some k2 =>
              have hoI : optI (some k2) = (k2 : Int) := rfl
              rw [hoI]
              have e1 : ((k2 : Int) == -1) = false := by
                exact beq_eq_false_iff_ne.2 (by omega)
              obtain ⟨hk2, hk3⟩ := HGE.out k2 rfl
              gi_wp2_with fail
              have e0 := y0.other ⟨w1.heap.size, 0, none⟩ (by show w1.heap.size ≠ _; omega) (.int .i64 (k2 : Int))
              have e1 := y1.other ⟨w1.heap.size, 0, none⟩ (by show w1.heap.size ≠ _; omega) (.int .i64 (k2 : Int))
              have e2 := y2.other ⟨w1.heap.size, 0, none⟩ (by show w1.heap.size ≠ _; omega) (.int .i64 (k2 : Int))
              obtain ⟨x1, x3, x4⟩ := HX1.out
              refine ⟨hRK.trans (RecK.grown (jgset Z w1.heap.size 0 _) (by omega) (fun r e => by injection e; omega)), hKY.setCell (p := ⟨w1.heap.size, 0, none⟩) (by show ¬ (w1.heap.size < W.heap.size ∨ w1.heap.size = w1.heap.size + 1 ∨ w1.heap.size = w1.heap.size + 1 + 1); omega) _, by simp [World.setCell]; omega, HSUC.out.1, f'', k2, by omega, ?_, by omega, by omega, hk3, e0, e1, e2, y3.set 0 _, y4.setCell (p := ⟨w1.heap.size, 0, none⟩) (by show W.heap.size ≤ w1.heap.size; omega) _, by simp [World.setCell]; omega⟩
              rw [HSUC.out.2]
              exact HX6.out
        · have HN : Hid (beh L f at_ = none) := Lib.hid (by rw [HE.out, x2]; exact kl_a hk1 (.inr (by omega)))
          subst ha
          have b1 : decide (L.length ≤ nx) = true := decide_eq_true (by omega)
          clear x1 x2 x3 x4 x5
          gi_wp2_with fail
          refine quiet_round rfl (by kernel_rfl) (by kernel_rfl) (by kernel_rfl) ?_
          gi_big_quiet_step (fail)
          repeat (gi_big_quiet_step (fail))
          refine wpQuietIn_nil ?_
          intro _ hw'
          obtain ⟨nq, rfl⟩ := hw'
          have hbn : Below X2.heap.size X2 (X2.drewN nq) := below_drewN (Below.refl _ _) nq
          generalize hY : X2.drewN nq = Y at hbn ⊢
          clear hY
          have y0 := y0.below hbn y0.lt
          have y1 := y1.below hbn y1.lt
          have y2 := y2.below hbn y2.lt
          have y3 := y3.below hbn y3.lt
          have y4 := y4.trans (hbn.mono y4.size)
          have hN2 : NdsIn Y (some ⟨b, off, none⟩) L := CellsIn.below hN y4 (Nat.le_refl _)
          have hRK : RecK X3.heap.size X2 Y := RecK.below hbn (by have := hg2s; omega)
          have hKY : KeepsAt (fun k => k < W.heap.size ∨ k = w1.heap.size + 1 ∨ k = w1.heap.size + 1 + 1) X2 Y := KeepsAt.below hbn (fun k hk => by have := hg2s; have := y5; omega)
          have hYs := hbn.size
          clear u0 u1 u2 u3 fz2 fz3
          have u0 := y0.cell1
          have u1 := y1.cell1
          have u2 := y2.cell1
          have u3 := y3.cell1
          have fz2 := y2.free 0
          have fz3 := y3.free 0
          gi_wp2_with fail
          exact ⟨hRK.trans (RecK.grown (jgset Y (W.heap.size + 1 + 1) 0 _) (by omega) (fun r e => by injection e; omega)), HN.out, y2.set 0 _, y4.setCell (p := ⟨W.heap.size + 1 + 1, 0, none⟩) (by show W.heap.size ≤ W.heap.size + 1 + 1; omega) _⟩
      · have HN : Hid (beh L f at_ = none) := Lib.hid (by rw [HE.out, x2]; exact kl_a hk1 (.inl ha))
        have a1 : (k == (nx : Int)) = false := by simpa using ha
        have a2 : (k != (nx : Int)) = true := by simpa using ha
        clear ha x1 x2 x3 x4 x5
        gi_wp2_with fail
        refine quiet_round rfl (by kernel_rfl) (by kernel_rfl) (by kernel_rfl) ?_
        gi_big_quiet_step (fail)
        repeat (gi_big_quiet_step (fail))
        refine wpQuietIn_nil ?_
        intro _ hw'
        obtain ⟨nq, rfl⟩ := hw'
        have hbn : Below X2.heap.size X2 (X2.drewN nq) := below_drewN (Below.refl _ _) nq
        generalize hY : X2.drewN nq = Y at hbn ⊢
        clear hY
        have y0 := y0.below hbn y0.lt
        have y1 := y1.below hbn y1.lt
        have y2 := y2.below hbn y2.lt
        have y3 := y3.below hbn y3.lt
        have y4 := y4.trans (hbn.mono y4.size)
        have hN2 : NdsIn Y (some ⟨b, off, none⟩) L := CellsIn.below hN y4 (Nat.le_refl _)
        have hRK : RecK X3.heap.size X2 Y := RecK.below hbn (by have := hg2s; omega)
        have hKY : KeepsAt (fun k => k < W.heap.size ∨ k = w1.heap.size + 1 ∨ k = w1.heap.size + 1 + 1) X2 Y := KeepsAt.below hbn (fun k hk => by have := hg2s; have := y5; omega)
        have hYs := hbn.size
        clear u0 u1 u2 u3 fz2 fz3
        have u0 := y0.cell1
        have u1 := y1.cell1
        have u2 := y2.cell1
        have u3 := y3.cell1
        have fz2 := y2.free 0
        have fz3 := y3.free 0
        gi_wp2_with fail
        exact ⟨hRK.trans (RecK.grown (jgset Y (W.heap.size + 1 + 1) 0 _) (by omega) (fun r e => by injection e; omega)), HN.out, y2.set 0 _, y4.setCell (p := ⟨W.heap.size + 1 + 1, 0, none⟩) (by show W.heap.size ≤ W.heap.size + 1 + 1; omega) _⟩
theorem behind_in (L : List ND) (hL : L.length < 1000000000) (b off cap : Nat) : ∀ (f n at_ : Nat) (W : World), at_ < L.length → L.length ≤ at_ + 1 + f → NdsIn W (some ⟨b, off, none⟩) L → b < W.heap.size →
    CallsIn Fence.wide n Tryz.prog 61 #[.slice (some ⟨b, off, none⟩) L.length cap, .int .i64 (at_ : Int)] W fun e w' => e = .returned (.int .i64 (optI (beh L f at_))) ∧ Below W.heap.size W w' := by
  intro f
  induction f using Nat.strongRecOn with
  | ind f ih => exact fun n at_ W h1 h2 h3 h4 => behind_step L hL b off cap f (fun f' n at_ W hf' a1 a2 a3 a4 => ih f' hf' n at_ W a1 a2 a3 a4) n at_ W h1 h2 h3 h4
end Go.Proofs.YtdnbnigebejgjaaGreatDoor
namespace Go.Proofs.YtdnbnigebejgjaaGreatDoor
open Go.RowKit Go.Shelf
theorem KeepsAt.mono' {ks ls : Nat → Prop} {A B : World} (h : KeepsAt ks A B) (hl : ∀ k, ls k → ks k) : KeepsAt ls A B := fun k hk => h k (hl k hk)
/-- What an iterator owes that calls others, or itself: yield keeps what it made. -/
def IterN (fid : Nat) (lb : Array Value) (E : List (Array Value)) (ks : Nat → Prop) (w0 : World) : Prop :=
  ∀ (n lp : Nat) (J Jx : Nat → World → Prop) (W : World), Below w0.heap.size w0 W → AbJ W.heap.size true J → AbJ W.heap.size true Jx →
    (∀ j (hj : j < E.length) m X, J j X → W.heap.size ≤ X.heap.size → YieldAt Fence.wide m Tryz.prog lp E[j] X fun e X' =>
      (e = .returned (.bool true) ∧ J (j + 1) X' ∧ KeepsAt (fun k => ks k ∨ (W.heap.size ≤ k ∧ k < X.heap.size)) X X' ∧ X.heap.size ≤ X'.heap.size) ∨ (e = .returned (.bool false) ∧ Jx (j + 1) X' ∧ KeepsAt (fun k => ks k ∨ (W.heap.size ≤ k ∧ k < X.heap.size)) X X' ∧ X.heap.size ≤ X'.heap.size)) →
    J 0 W →
    CallsIn Fence.wide n Tryz.prog fid (#[.func (.yield lp) #[] #[]] ++ lb) W fun e W' => (∃ v, e = .returned v) ∧ (J E.length W' ∨ ∃ j, Jx j W')
/-- How a round's body may end, if what was made since the range began is kept. -/
def bodyN (N : Nat) (ks : Nat → Prop) (I : World → Prop) (Ix : World → Prop) (W : World) : Exit → Act → World → Prop
  | .normal, _, W' => RecK N W W' ∧ KeepsAt (fun k => ks k ∨ (N + 2 ≤ k ∧ k < W.heap.size)) W W' ∧ W.heap.size ≤ W'.heap.size ∧ I W'
  | .ret, _, W' => RecK N W W' ∧ KeepsAt (fun k => ks k ∨ (N + 2 ≤ k ∧ k < W.heap.size)) W W' ∧ W.heap.size ≤ W'.heap.size ∧ Ix W'
  | _, _, _ => False
set_option maxHeartbeats 2000000 in
theorem rangeN {n : Nat} {g : Operand} {ps : Array Tmp} {assign body : Code} {Q : Exit → Act → World → Prop} {a : Act} {w : World}
    {fid : Nat} {lb : Array Value} {E : List (Array Value)} {ks : Nat → Prop}
    (hg : a.eval g = .func (.func fid) #[] lb) (eg : ∀ args w, (callFunc fid args).run Tryz.prog w = .ok (.enter fid args) w)
    (hE : ∀ j (hj : j < E.length), (E[j]).size = ps.size) (hit : IterN fid lb E ks w) (hks : ∀ k, ks k → k < w.heap.size)
    (I : Nat → World → Prop) (Ix : World → Prop)
    (hI : ∀ j X X' row, I j X → X.grownBy X' row → (∀ r, row = some r → w.heap.size ≤ r) → I j X')
    (hIx : ∀ X X' row, Ix X → X.grownBy X' row → (∀ r, row = some r → w.heap.size ≤ r) → Ix X')
    (h0 : I 0 w)
    (hround : ∀ j (hj : j < E.length) m X, I j X → w.heap.size + 2 ≤ X.heap.size →
      assign.wpIn (Fence.wide.inRound (w.heap.size + 1)) m Tryz.prog
        (Exit.then (fun a₁ w₁ => w₁ = X ∧ ∀ w₂, X.grownBy w₂ (some (w.heap.size + 1)) → body.wpIn (Fence.wide.inRound (w.heap.size + 1)) m Tryz.prog (bodyN w.heap.size ks (I (j + 1)) Ix w₂) a₁ w₂) (fun _ _ _ => False))
        { tmps := (ps.zip E[j]).foldl (fun t (p, v) => t.setIfInBounds p v) a.tmps, defers := [] } X)
    (hdone : ∀ W', I E.length W' → w.heap.size + 2 ≤ W'.heap.size → W'.heap[w.heap.size]? = some (.deferred (some [])) → Q .normal { a with defers := { target := .collected w.heap.size, args := #[] } :: a.defers } W')
    (hstop : ∀ W', Ix W' → W'.heap[w.heap.size]? = some (.deferred (some [])) → Code.ret.wpIn Fence.wide n Tryz.prog Q { a with defers := { target := .collected w.heap.size, args := #[] } :: a.defers } W') :
    (Code.rangeFunc g ps assign body).wpIn Fence.wide n Tryz.prog Q a w := by
  refine wpIn_rangeFunc ?_
  intro fn hfn
  obtain ⟨R, hR⟩ : ∃ R, R = jrec fn a.tmps ps assign body w.heap.size := ⟨_, rfl⟩
  obtain ⟨W1, hW1⟩ : ∃ W1, (w.alloc (.deferred (some []))).alloc (.loop (R .ready none)) = W1 := ⟨_, rfl⟩
  have hL1 : W1.heap[w.heap.size + 1]? = some (.loop (R .ready none)) := by
    rw [← hW1]
    have := World.alloc_heap_new (w.alloc (.deferred (some []))) (.loop (R .ready none))
    rwa [World.size_alloc] at this
  have hK1 : W1.heap[w.heap.size]? = some (.deferred (some [])) := by
    rw [← hW1]
    exact (Below.heap_alloc _ _ _ (by simp)).trans (World.alloc_heap_new w _)
  have hgN : w.grownBy W1 none := by
    rw [← hW1]
    exact jgal (jgal (jgrefl _ _) _) _
  have hbN : Below w.heap.size w W1 := by
    rw [← hW1]
    exact ((Below.refl _ w).alloc (Nat.le_refl _) _).alloc (by simp) _
  have hsz1 : W1.heap.size = w.heap.size + 2 := by rw [← hW1]; simp
  refine ⟨w.heap.size + 1, [{ target := .collected w.heap.size, args := #[] }], W1, { target := .fn (.func fid) lb, args := #[.func (.yield (w.heap.size + 1)) #[] #[]] }, W1, fid,
    #[.func (.yield (w.heap.size + 1)) #[] #[]] ++ lb, W1, ?_, ?_, ?_, ?_, (fun h => by cases h), ?_⟩
  · rw [← hW1, hR]
    exact run_enterLoop_outer _ _ _ _ _
  · simp only [resolve, hg]
    simp [go_sem]
  · intro f' hf'
    trivial
  · simp [invoke, go_sem, eg]
  · refine (hit (n - 1) (w.heap.size + 1)
      (fun j X => I j X ∧ w.heap.size + 2 ≤ X.heap.size ∧ X.heap[w.heap.size + 1]? = some (.loop (R .ready none)) ∧ X.heap[w.heap.size]? = some (.deferred (some [])))
      (fun _ X => Ix X ∧ X.heap[w.heap.size + 1]? = some (.loop (R .done (some .ret))) ∧ X.heap[w.heap.size]? = some (.deferred (some [])))
      W1 hbN ?aJ ?aX ?hY ⟨hI _ _ _ _ h0 hgN (fun r e => by cases e), by omega, hL1, hK1⟩).mono ?post
    case aJ =>
      rintro j X X' row ⟨hi, hs, hl, hk⟩ hgr hr
      have hne : ∀ k, k < w.heap.size + 2 → some k ≠ row := fun k hk2 e => by have := (hr k e.symm).1; omega
      exact ⟨hI _ _ _ _ hi hgr (fun r e => by have := (hr r e).1; omega), Nat.le_trans hs hgr.size, (hgr.block _ (by omega) (hne _ (by omega))).trans hl, (hgr.block _ (by omega) (hne _ (by omega))).trans hk⟩
    case aX =>
      rintro j X X' row ⟨hi, hl, hk⟩ hgr hr
      have hlt : w.heap.size + 1 < X.heap.size := (Array.getElem?_eq_some_iff.1 hl).1
      have hne : ∀ k, k < w.heap.size + 2 → some k ≠ row := fun k hk2 e => by have := (hr k e.symm).1; omega
      exact ⟨hIx _ _ _ hi hgr (fun r e => by have := (hr r e).1; omega), (hgr.block _ (by omega) (hne _ (by omega))).trans hl, (hgr.block _ (by omega) (hne _ (by omega))).trans hk⟩
    case hY =>
      rintro j hj m X ⟨hi, hs, hl, hk⟩ _
      have hlt : w.heap.size + 1 < X.heap.size := (Array.getElem?_eq_some_iff.1 hl).1
      have hy := run_yield (P := Tryz.prog) (args := E[j]) hl (by show (E[j]).size = (R .ready none).params.size; rw [hR]; exact hE j hj)
      refine ⟨fn, _, assign, body, by rw [hR] at hy; exact hy, roundIn_of_wpIn hfn ?_⟩
      have hst : (R .ready none).state = .ready := by rw [hR]; rfl
      refine wpIn_mono (hround j hj m X hi hs) ?_
      rintro e a₁ w₁ h
      cases e with
      | normal =>
        obtain ⟨rfl, hb⟩ := h
        refine ⟨_, run_beginRound hl hst, ?_⟩
        obtain ⟨o2, ho2⟩ : ∃ o2, Obj.loop { R .ready none with state := .busy } = o2 := ⟨_, rfl⟩
        rw [ho2]
        have hp := grownBy_putObj' w₁ (w.heap.size + 1) o2
        have hl2 : (w₁.putObj (w.heap.size + 1) o2).heap[w.heap.size + 1]? = some o2 := World.putObj_heap_same hlt
        have hk2 : (w₁.putObj (w.heap.size + 1) o2).heap[w.heap.size]? = some (.deferred (some [])) := (World.putObj_heap_other (by omega)).trans hk
        have hkp : KeepsAt (fun k => ks k ∨ (W1.heap.size ≤ k ∧ k < w₁.heap.size)) w₁ (w₁.putObj (w.heap.size + 1) o2) := keepsAt_putObj _ _ _ (fun h => by rcases h with h | h; have := hks _ h; omega; omega)
        have hsz : w₁.heap.size ≤ (w₁.putObj (w.heap.size + 1) o2).heap.size := hp.size
        refine wpIn_mono (hb _ hp) ?_
        rintro e a3 W3 h3
        cases e with
        | normal =>
          obtain ⟨⟨kd, kl⟩, hkk, hz, hi3⟩ := h3
          have hl3 := kl.trans hl2
          rw [← ho2] at hl3
          have hlt3 : w.heap.size + 1 < W3.heap.size := (Array.getElem?_eq_some_iff.1 hl3).1
          have hd3 := kd.trans hk2
          have hend := run_endRound (P := Tryz.prog) none hl3
          obtain ⟨o4, ho4⟩ : ∃ o4, o4 = Obj.loop (R .ready none) := ⟨_, rfl⟩
          have hp3 := grownBy_putObj' W3 (w.heap.size + 1) o4
          refine ⟨_, _, hend, .inl ⟨rfl, ⟨?_, ?_, ?_, ?_⟩, ?_, ?_⟩⟩
          · exact hI _ _ _ _ hi3 (grownBy_putObj' W3 (w.heap.size + 1) _) (fun r e => by injection e; omega)
          · exact Nat.le_trans (by omega) (grownBy_putObj' W3 (w.heap.size + 1) _).size
          · rw [World.putObj_heap_same hlt3, hR]; rfl
          · exact (World.putObj_heap_other (by omega)).trans hd3
          · exact (hkp.trans (hkk.mono' (fun k h => by rcases h with h | h; exact .inl h; exact .inr (by omega)))).trans (keepsAt_putObj _ _ _ (fun h => by rcases h with h | h; have := hks _ h; omega; omega))
          · exact Nat.le_trans (Nat.le_trans hsz hz) (grownBy_putObj' W3 (w.heap.size + 1) _).size
        | ret =>
          obtain ⟨⟨kd, kl⟩, hkk, hz, hi3⟩ := h3
          have hl3 := kl.trans hl2
          rw [← ho2] at hl3
          have hlt3 : w.heap.size + 1 < W3.heap.size := (Array.getElem?_eq_some_iff.1 hl3).1
          have hd3 := kd.trans hk2
          have hend := run_endRound (P := Tryz.prog) (some .ret) hl3
          refine ⟨_, _, hend, .inr ⟨rfl, ⟨?_, ?_, ?_⟩, ?_, ?_⟩⟩
          · exact hIx _ _ _ hi3 (grownBy_putObj' W3 (w.heap.size + 1) _) (fun r e => by injection e; omega)
          · rw [World.putObj_heap_same hlt3, hR]; rfl
          · exact (World.putObj_heap_other (by omega)).trans hd3
          · exact (hkp.trans (hkk.mono' (fun k h => by rcases h with h | h; exact .inl h; exact .inr (by omega)))).trans (keepsAt_putObj _ _ _ (fun h => by rcases h with h | h; have := hks _ h; omega; omega))
          · exact Nat.le_trans (Nat.le_trans hsz hz) (grownBy_putObj' W3 (w.heap.size + 1) _).size
        | exit id => exact h3.elim
        | goto t => exact h3.elim
        | panic ch => exact h3.elim
        | outgrown => exact h3.elim
      | exit id => exact h.elim
      | goto t => exact h.elim
      | ret => exact h.elim
      | panic ch => exact h.elim
      | outgrown => exact h.elim
    case post =>
      rintro e W2 ⟨⟨v, rfl⟩, (⟨hi, hs, hl, hk⟩ | ⟨j, hi, hl, hk⟩)⟩
      · have hend := run_endLoop (P := Tryz.prog) hl (by rw [hR]; simp [jrec])
        have hpe : (R .ready none).pending = none := by rw [hR]; rfl
        rw [hpe] at hend
        have hlt : w.heap.size + 1 < W2.heap.size := (Array.getElem?_eq_some_iff.1 hl).1
        exact ⟨none, _, hend, hdone _ (hI _ _ _ _ hi (grownBy_putObj' W2 (w.heap.size + 1) _) (fun r e => by injection e; omega)) (Nat.le_trans hs (grownBy_putObj' W2 (w.heap.size + 1) _).size) ((World.putObj_heap_other (by omega)).trans hk)⟩
      · have hend := run_endLoop (P := Tryz.prog) hl (by rw [hR]; simp [jrec])
        have hpe : (R .done (some .ret)).pending = some .ret := by rw [hR]; rfl
        rw [hpe] at hend
        exact ⟨some .ret, _, hend, hstop _ (hIx _ _ _ hi (grownBy_putObj' W2 (w.heap.size + 1) _) (fun r e => by injection e; omega)) ((World.putObj_heap_other (by omega)).trans hk)⟩
end Go.Proofs.YtdnbnigebejgjaaGreatDoor
