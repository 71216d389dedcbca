/-
  pattern.isNumbered: whether the groups of a tree have their numbers.
  pattern.isGroup, Check and Inside for any nodes.
  pattern.Inside for any nodes.
  pattern.Disjoint for any nodes that are a tree with its groups.
-/
import Derived.Test.YtdnbnigebejgjaaGreatDoorHC4
namespace Go.Proofs.YtdnbnigebejgjaaGreatDoor
open Go.RowKit Go.Shelf
attribute [local go_sem] Oper.semAt_some Oper.askedIn wide_fn
def gct : List ND → Nat
  | [] => 0
  | n :: L => (if n.kind = 4 then 1 else 0) + gct L
def numOK : List ND → Int → Bool
  | [], _ => true
  | n :: L, c => if n.kind = 4 then decide (n.group = c + 1) && numOK L (c + 1) else numOK L c
/-- Are the groups numbered from 1 on, as many as g and at most nine? -/
def nmB (L : List ND) (g : Int) : Bool := numOK L 0 && (decide ((gct L : Int) = g) && decide ((gct L : Int) ≤ 9))
def NuI (L : List ND) (v0 v1 v2 v3 : Value) (W : World) (M j : Nat) (X : World) : Prop :=
  ∃ c : Nat, c ≤ j ∧ numOK L 0 = numOK (L.drop j) (c : Int) ∧ gct L = c + gct (L.drop j) ∧ CBlk 25 X W.heap.size [v0, v1, v2, v3] ∧ CBlk 4 X (W.heap.size + 1) [.bool false] ∧ CBlk 3 X (W.heap.size + 1 + 1) [.int .i64 (c : Int)] ∧ Below W.heap.size W X ∧ M ≤ X.heap.size
def NuX (r : Bool) (W : World) (M : Nat) (X : World) : Prop := r = false ∧ CBlk 4 X (W.heap.size + 1) [.bool false] ∧ Below W.heap.size W X ∧ M ≤ X.heap.size
set_option maxHeartbeats 8000000 in
set_option maxRecDepth 100000 in
theorem isNumbered_any (L : List ND) (hbe : beh L L.length 0 = some L.length) (hL : L.length < 1000000000) (b off cap : Nat) (bb en : Bool) (g : Int) (W : World) (hN : NdsIn W (some ⟨b, off, none⟩) L) (hb : b < W.heap.size) :
    Calls Tryz.prog 40 #[.agg #[.slice (some ⟨b, off, none⟩) L.length cap, .bool bb, .bool en, .int .i64 g]] W fun e w' => e = .returned (.bool (nmB L g)) ∧ Below W.heap.size W w' := by
  suffices h : ∀ n, CallsIn Fence.wide n Tryz.prog 40 #[.agg #[.slice (some ⟨b, off, none⟩) L.length cap, .bool bb, .bool en, .int .i64 g]] W fun e w' => e = .returned (.bool (nmB L g)) ∧ Below W.heap.size W w' from callsIn_wide.1 (h 0)
  intro n
  refine callsIn_of_wp_marks Tryz.func40 rfl trivial ?_ rfl
  simp only [Tryz.ntmps40, List.size_toArray, List.length_cons, List.length_nil, Nat.reduceAdd, Nat.reduceSub, Array.replicate_succ, Array.replicate_zero, List.push_toArray, List.append_toArray, List.nil_append, List.cons_append]
  gi_upto_region 2 with fail
  generalize hW0 : ((W.alloc (.cells #[.slice (some ⟨b, off, none⟩) L.length cap, .bool bb, .bool en, .int .i64 g] 25)).alloc (.cells #[.bool false] 4)).alloc (.cells #[.int .i64 0] 3) = W0
  have s0 : CBlk 25 W0 W.heap.size [.slice (some ⟨b, off, none⟩) L.length cap, .bool bb, .bool en, .int .i64 g] := by rw [← hW0]; exact ((CBlk.new _ W _).alloc _).alloc _
  have s1 : CBlk 4 W0 (W.heap.size + 1) [.bool false] := by
    rw [← hW0]
    have := (CBlk.new 4 (W.alloc (.cells #[.slice (some ⟨b, off, none⟩) L.length cap, .bool bb, .bool en, .int .i64 g] 25)) [.bool false]).alloc (.cells #[.int .i64 0] 3)
    rwa [World.size_alloc] at this
  have s2 : CBlk 3 W0 (W.heap.size + 1 + 1) [.int .i64 ((0 : Nat) : Int)] := by
    rw [← hW0]
    have := CBlk.new 3 ((W.alloc (.cells #[.slice (some ⟨b, off, none⟩) L.length cap, .bool bb, .bool en, .int .i64 g] 25)).alloc (.cells #[.bool false] 4)) [.int .i64 0]
    rwa [World.size_alloc, World.size_alloc] at this
  have hB0 : Below W.heap.size W W0 := by rw [← hW0]; exact (((Below.refl _ W).alloc (Nat.le_refl _) _).alloc (by simp) _).alloc (by simp; omega) _
  have hz0 : W0.heap.size = W.heap.size + 3 := by rw [← hW0]; simp
  have t0 := s0.cell 0 (by simp)
  clear hW0
  gi_wp2_with fail
  refine ⟨(fun h => by cases h), (callsIn_wide.2 (below_any _ _ _ _ _)).mono ?_⟩
  rintro e w' ⟨rfl, rfl⟩
  generalize hX3 : (W0.alloc (.cells #[.slice (some ⟨b, off, none⟩) L.length cap] 23)).alloc (.cells #[.int .i64 0] 3) = X3
  have g0 := (s0.alloc (.cells #[.slice (some ⟨b, off, none⟩) L.length cap] 23)).alloc (.cells #[.int .i64 0] 3)
  have g1 := (s1.alloc (.cells #[.slice (some ⟨b, off, none⟩) L.length cap] 23)).alloc (.cells #[.int .i64 0] 3)
  have g2 := (s2.alloc (.cells #[.slice (some ⟨b, off, none⟩) L.length cap] 23)).alloc (.cells #[.int .i64 0] 3)
  have g4 : CBlk 23 X3 W0.heap.size [.slice (some ⟨b, off, none⟩) L.length cap] := by rw [← hX3]; exact (CBlk.new _ W0 _).alloc _
  have g5 : CBlk 3 X3 (W0.heap.size + 1) [.int .i64 ((0 : Nat) : Int)] := by
    rw [← hX3]
    have := CBlk.new 3 (W0.alloc (.cells #[.slice (some ⟨b, off, none⟩) L.length cap] 23)) [.int .i64 0]
    rwa [World.size_alloc] at this
  rw [hX3] at g0 g1 g2
  rw [hz0] at g4 g5
  have hB3 : Below W.heap.size W X3 := by rw [← hX3]; exact (hB0.alloc (by omega) _).alloc (by simp; omega) _
  have hz3 : X3.heap.size = W0.heap.size + 2 := by rw [← hX3]; simp
  have hN3 : NdsIn X3 (some ⟨b, off, none⟩) L := CellsIn.below hN hB3 (Nat.le_refl _)
  have HNW := Lib.hid hN
  have HB3 := Lib.hid hB3
  clear hX3 s0 s1 s2 t0 hB0 hB3 hN
  gi_wp2_with fail
  refine rangeN (fid := 63) (lb := #[.pointer (some ⟨W.heap.size + 3, 0, none⟩), .pointer (some ⟨W.heap.size + 3 + 1, 0, none⟩)]) (E := numE 0 L.length) (ks := fun k => k = b)
    rfl (enters_of Tryz.func63 (by kernel_rfl) rfl) (fun j hj => by simp [numE]) ?iter (fun k hk => by omega)
    (NuI L (.slice (some ⟨b, off, none⟩) L.length cap) (.bool bb) (.bool en) (.int .i64 g) W X3.heap.size) (NuX (nmB L g) W X3.heap.size) ?hI ?hIx ?h0 ?round ?done ?stop
  case iter => exact below_iter L L.length 0 L.length hbe b off cap (W.heap.size + 3) (W.heap.size + 3 + 1) (fun k => k = b) X3 hN3 g4 g5 rfl (fun i hi => by omega)
  case hI =>
    rintro j X X' row ⟨c, x1, x2, x3, y0, y1, y2, y3, y4⟩ hg hr
    have hne : ∀ i, i < X3.heap.size → some i ≠ row := fun i hi e => by have := (hr i e.symm); omega
    exact ⟨c, x1, x2, x3, y0.kept hg (hne _ (by omega)), y1.kept hg (hne _ (by omega)), y2.kept hg (hne _ (by omega)), y3.grown hg (by omega) (fun r e => by have := hr r e; omega), Nat.le_trans y4 hg.size⟩
  case hIx =>
    rintro X X' row ⟨x1, y2, y3, y4⟩ hg hr
    have hne : ∀ i, i < X3.heap.size → some i ≠ row := fun i hi e => by have := (hr i e.symm); omega
    exact ⟨x1, y2.kept hg (hne _ (by omega)), y3.grown hg (by omega) (fun r e => by have := hr r e; omega), Nat.le_trans y4 hg.size⟩
  case h0 => exact ⟨0, Nat.le_refl _, rfl, by simp, g0, g1, g2, HB3.out, Nat.le_refl _⟩
  case done =>
    rintro X ⟨c, x1, x2, x3, y0, y1, y2, y3, y4⟩ hz hD
    rw [numE_len, Nat.sub_zero, List.drop_length] at x2 x3
    have hc : gct L = c := x3
    have hn : numOK L 0 = true := x2
    obtain ⟨q, hq⟩ : ∃ q, decide ((c : Int) = g) = q := ⟨_, rfl⟩
    obtain ⟨r, hr⟩ : ∃ q, decide ((c : Int) ≤ 9) = q := ⟨_, rfl⟩
    have hq2 : ((c : Int) == g) = q := by rw [← hq]; rfl
    have hres : nmB L g = (q && r) := by unfold nmB; rw [hn, hc, hq, hr]; rfl
    have HRS := Lib.hid hres
    have HD := Lib.hid hD
    have Y1 := Lib.hid y1
    have Y3 := Lib.hid y3
    have c0 := y0.cell 3 (by simp)
    have c2 := y2.cell1
    have c1 := y1.cell1
    have fz1 := y1.free 0
    have fin : ∀ r2 : Bool, nmB L g = r2 → ∀ a : Act, a.tmps.getD 2 undef = .pointer (some ⟨W.heap.size + 1, 0, none⟩) → True := fun _ _ _ _ => trivial
    clear g0 g1 g2 g4 g5 x1 x2 x3 hc hn hD y0 y1 y2 y3 hN3 hres hq fin
    cases q with
    | false =>
      clear hr
      gi_wp2_with fail
      have hb1 := Y1.out.set 0 (.bool false)
      have hB1 := Y3.out.setCell (p := ⟨W.heap.size + 1, 0, none⟩) (by show W.heap.size ≤ W.heap.size + 1; omega) (.bool false)
      have hD1 : (X.setCell ⟨W.heap.size + 1, 0, none⟩ (.bool false)).heap[X3.heap.size]? = some (.deferred (some [])) := (Below.heap_setCell _ _ _ _ (by show X3.heap.size ≠ W.heap.size + 1; omega)).trans HD.out
      have hgp := grownBy_putObj' (X.setCell ⟨W.heap.size + 1, 0, none⟩ (.bool false)) X3.heap.size (.deferred none)
      refine ⟨by simp, .inl ⟨_, _, rfl, run_takeDeferred hD1, ?_⟩⟩
      refine ⟨_, res1 (hb1.kept hgp (fun e => by injection e; omega)) rfl _ rfl Tryz.isAgg4, by rw [HRS.out]; rfl, hB1.grown hgp (by have := hB1.size; omega) (fun r hr => by injection hr; omega)⟩
    | true =>
      gi_wp2_with fail
      have hb1 := Y1.out.set 0 (.bool r)
      have hB1 := Y3.out.setCell (p := ⟨W.heap.size + 1, 0, none⟩) (by show W.heap.size ≤ W.heap.size + 1; omega) (.bool r)
      have hD1 : (X.setCell ⟨W.heap.size + 1, 0, none⟩ (.bool r)).heap[X3.heap.size]? = some (.deferred (some [])) := (Below.heap_setCell _ _ _ _ (by show X3.heap.size ≠ W.heap.size + 1; omega)).trans HD.out
      have hgp := grownBy_putObj' (X.setCell ⟨W.heap.size + 1, 0, none⟩ (.bool r)) X3.heap.size (.deferred none)
      refine ⟨by simp, .inl ⟨_, _, rfl, run_takeDeferred hD1, ?_⟩⟩
      refine ⟨_, res1 (hb1.kept hgp (fun e => by injection e; omega)) rfl _ rfl Tryz.isAgg4, by rw [HRS.out]; rfl, hB1.grown hgp (by have := hB1.size; omega) (fun r hr => by injection hr; omega)⟩
  case stop =>
    rintro X ⟨x1, y2, y3, y4⟩ hD
    have HX1 := Lib.hid x1
    have HD := Lib.hid hD
    have Y2 := Lib.hid y2
    have Y3 := Lib.hid y3
    clear g0 g1 g2 g4 g5 hD y2 y3 hN3 x1
    gi_wp2_with fail
    have hgp := grownBy_putObj' X X3.heap.size (.deferred none)
    refine ⟨by simp, .inl ⟨_, _, rfl, run_takeDeferred HD.out, ?_⟩⟩
    refine ⟨_, res1 (Y2.out.kept hgp (fun e => by injection e; omega)) rfl _ rfl Tryz.isAgg4, by rw [HX1.out], Y3.out.grown hgp (by have := Y3.out.size; omega) (fun r hr => by injection hr; omega)⟩
  case round =>
    rintro j hj m X ⟨c, x1, x2, x3, y0, y1, y2, y3, y4⟩ hz
    rw [numE_at]
    rw [numE_len] at hj
    have hjl : j < L.length := by omega
    rw [List.drop_eq_getElem_cons hjl] at x2 x3
    obtain ⟨nd, hnd⟩ : ∃ nd, L[j] = nd := ⟨_, rfl⟩
    rw [hnd] at x2 x3
    rw [Nat.zero_add]
    clear g0 g1 g2 g4 g5 hN3 hj
    gi_wp2
    refine ⟨trivial, ?_⟩
    intro X2 hg2
    have hne : ∀ i, i < X3.heap.size → some i ≠ some (X3.heap.size + 1) := fun i hi e => by injection e; omega
    have z0 := y0.kept hg2 (hne _ (by omega))
    have z1 := y1.kept hg2 (hne _ (by omega))
    have z2 := y2.kept hg2 (hne _ (by omega))
    have z3 := y3.grown hg2 (by omega) (fun r e => by injection e; omega)
    have hz2 := hg2.size
    have hN2 : NdsIn X2 (some ⟨b, off, none⟩) L := CellsIn.below HNW.out z3 (Nat.le_refl _)
    have t0 := z0.cell 0 (by simp)
    have t2 := z2.cell1
    have c0 := nd_cells hN2 hjl 0 (by omega)
    rw [hnd] at c0
    rw [show (ndC nd).getD 0 (.int .i64 0) = .int .i64 nd.kind from rfl, Nat.add_zero] at c0
    have hb1 : (j : Int) < (L.length : Int) := by omega
    obtain ⟨q, hq⟩ : ∃ q, decide (nd.kind = 4) = q := ⟨_, rfl⟩
    have hq2 : (nd.kind == 4) = q := by rw [← hq]; rfl
    have hq3 : (nd.kind != 4) = !q := by rw [← hq]; rfl
    have Z3 := Lib.hid z3
    have Z0 := Lib.hid z0
    have Z1 := Lib.hid z1
    have HN2 := Lib.hid hN2
    clear y0 y1 y2 y3 hg2 hN2 z3 z0 z1 hq2
    cases q with
    | false =>
      have hk : nd.kind ≠ 4 := of_decide_eq_false hq
      rw [numOK, if_neg hk] at x2
      rw [gct, if_neg hk, Nat.zero_add] at x3
      have XX := Lib.hid (And.intro x2 x3)
      have Z2 := Lib.hid z2
      clear x2 x3 hk hq z2
      gi_wp2_with fail
      exact ⟨⟨rfl, rfl⟩, KeepsAt.refl _ _, Nat.le_refl _, c, by omega, XX.out.1, XX.out.2, Z0.out, Z1.out, Z2.out, Z3.out, by omega⟩
    | true =>
      have hk : nd.kind = 4 := of_decide_eq_true hq
      rw [numOK, if_pos hk] at x2
      rw [gct, if_pos hk] at x3
      have XX := Lib.hid (And.intro x2 x3)
      have fz2 := z2.free 0
      have hw : IntKind.i64.wrap ((c : Int) + 1) = (c : Int) + 1 := jwrap (by omega) (by omega)
      clear x2 x3 hk hq
      gi_upto_region 6 with fail
      generalize hX4 : X2.setCell ⟨W.heap.size + 1 + 1, 0, none⟩ (.int .i64 ((c : Int) + 1)) = X4
      have v2 : CBlk 3 X4 (W.heap.size + 1 + 1) [.int .i64 ((c : Int) + 1)] := by rw [← hX4]; exact z2.set 0 _
      have v0 : CBlk 25 X4 W.heap.size [.slice (some ⟨b, off, none⟩) L.length cap, .bool bb, .bool en, .int .i64 g] := by rw [← hX4]; exact Z0.out.other ⟨W.heap.size + 1 + 1, 0, none⟩ (by show W.heap.size + 1 + 1 ≠ _; omega) _
      have v1 : CBlk 4 X4 (W.heap.size + 1) [.bool false] := by rw [← hX4]; exact Z1.out.other ⟨W.heap.size + 1 + 1, 0, none⟩ (by show W.heap.size + 1 + 1 ≠ _; omega) _
      have v3 : Below W.heap.size W X4 := by rw [← hX4]; exact Z3.out.setCell (p := ⟨W.heap.size + 1 + 1, 0, none⟩) (by show W.heap.size ≤ W.heap.size + 1 + 1; omega) _
      have hg1 : X2.grownBy X4 (some (W.heap.size + 1 + 1)) := by rw [← hX4]; exact jgset X2 (W.heap.size + 1 + 1) 0 _
      have hK1 : KeepsAt (fun k => k < X2.heap.size ∧ k ≠ W.heap.size + 1 + 1) X2 X4 := keepsAt_grown hg1 (fun k hk => ⟨by omega, fun e => by injection e; omega⟩)
      have hN4 : NdsIn X4 (some ⟨b, off, none⟩) L := CellsIn.below HNW.out v3 (Nat.le_refl _)
      have hz4 := hg1.size
      clear hX4 hg1 z2 t0 t2 c0 fz2
      have t0 := v0.cell 0 (by simp)
      have t2 := v2.cell1
      have c6 := nd_cells hN4 hjl 6 (by omega)
      rw [hnd] at c6
      rw [show (ndC nd).getD 6 (.int .i64 0) = .int .i64 nd.group from rfl] at c6
      obtain ⟨r, hr⟩ : ∃ r, decide (nd.group = (c : Int) + 1) = r := ⟨_, rfl⟩
      have hr2 : (nd.group == (c : Int) + 1) = r := by rw [← hr]; rfl
      have hr3 : (nd.group != (c : Int) + 1) = !r := by rw [← hr]; rfl
      have HR := Lib.hid hr
      have V3 := Lib.hid v3
      clear hN4 hr hr2 v3
      gi_wp2_with fail
      refine quiet_round rfl (by kernel_rfl) (by kernel_rfl) (by kernel_rfl) ?_
      repeat (gi_big_quiet_step (fail))
      refine wpQuietIn_nil ?_
      intro _ hw'
      obtain ⟨nq, rfl⟩ := hw'
      have hbn : Below X4.heap.size X4 (X4.drewN nq) := below_drewN (Below.refl _ _) nq
      generalize hYY : X4.drewN nq = Y at hbn ⊢
      clear hYY t0 t2 c6
      have u0 := v0.below hbn v0.lt
      have u1 := v1.below hbn v1.lt
      have u2 := v2.below hbn v2.lt
      have u3 := V3.out.trans (hbn.mono (by have := V3.out.size; omega))
      have hYs := hbn.size
      have hKY : KeepsAt (fun k => k < X2.heap.size ∧ k ≠ W.heap.size + 1 + 1) X2 Y := hK1.trans (KeepsAt.below hbn (fun k hk => by omega))
      have HKY := Lib.hid hKY
      have U3 := Lib.hid u3
      clear v0 v1 v2 hbn u3 hKY hK1
      have hcast : (c : Int) + 1 = ((c + 1 : Nat) : Int) := by omega
      cases r with
      | true =>
        have hx2 : numOK L 0 = numOK (L.drop (j + 1)) ((c + 1 : Nat) : Int) := by rw [XX.out.1, HR.out, ← hcast]; rfl
        have HX2 := Lib.hid hx2
        rw [hcast] at u2
        have U2 := Lib.hid u2
        clear hcast hx2 u2
        gi_wp2_with fail
        exact ⟨⟨HKY.out _ (by omega), HKY.out _ (by omega)⟩, HKY.out.mono' (fun i hi => by rcases hi with rfl | h; omega; omega), by omega, c + 1, by omega, HX2.out, by have := XX.out.2; omega, u0, u1, U2.out, U3.out, by omega⟩
      | false =>
        have hres : nmB L g = false := by unfold nmB; rw [XX.out.1, HR.out]; rfl
        have HRS := Lib.hid hres
        have c1 := u1.cell1
        have fz1 := u1.free 0
        clear hres hcast
        gi_wp2_with fail
        have hb1 := u1.set 0 (.bool false)
        have hg1 : Y.grownBy (Y.setCell ⟨W.heap.size + 1, 0, none⟩ (.bool false)) (some (W.heap.size + 1)) := jgset Y (W.heap.size + 1) 0 _
        have hK1 : KeepsAt (fun k => (k < X2.heap.size ∧ k ≠ W.heap.size + 1 + 1) ∧ k ≠ W.heap.size + 1) X2 (Y.setCell ⟨W.heap.size + 1, 0, none⟩ (.bool false)) := (HKY.out.mono' (fun k hk => hk.1)).trans (keepsAt_grown hg1 (fun k hk => ⟨by omega, fun e => by injection e; omega⟩))
        exact ⟨⟨hK1 _ (by omega), hK1 _ (by omega)⟩, hK1.mono' (fun i hi => by rcases hi with rfl | h; omega; omega), by have := hg1.size; omega, HRS.out, hb1, U3.out.setCell (p := ⟨W.heap.size + 1, 0, none⟩) (by show W.heap.size ≤ W.heap.size + 1; omega) _, by have := hg1.size; omega⟩
end Go.Proofs.YtdnbnigebejgjaaGreatDoor
namespace Go.Proofs.YtdnbnigebejgjaaGreatDoor
open Go.RowKit Go.Shelf
theorem isGroup_any (v : Value) (bb en : Bool) (g k : Int) (W : World) :
    Calls Tryz.prog 47 #[.agg #[v, .bool bb, .bool en, .int .i64 g], .int .i64 k] W fun e w' => e = .returned (.bool (decide (0 ≤ k ∧ k ≤ g))) ∧ Below W.heap.size W w' := by
  obtain ⟨q, hq⟩ : ∃ q, decide ((0 : Int) ≤ k) = q := ⟨_, rfl⟩
  obtain ⟨r, hr⟩ : ∃ q, decide (k ≤ g) = q := ⟨_, rfl⟩
  have hR : Hid (decide (0 ≤ k ∧ k ≤ g) = (q && r)) := Lib.hid (by rw [Bool.decide_and, hq, hr])
  have hB : Below W.heap.size W (W.alloc (.cells #[v, .bool bb, .bool en, .int .i64 g] 25)) := (Below.refl _ W).alloc (Nat.le_refl _) _
  cases q with
  | false =>
    go_enter Tryz.func47, Tryz.ntmps47
    go_wp2
    go_ret
    exact ⟨by rw [hR.out]; rfl, hB⟩
  | true =>
    go_enter Tryz.func47, Tryz.ntmps47
    go_wp2
    go_ret
    exact ⟨by rw [hR.out]; rfl, hB⟩
/-- What Check says. -/
def chkR (L : List ND) (g : Int) : Int := if 200 < L.length then 5 else if treeB L = true then (if nmB L g = true then 0 else 14) else 3
theorem treeB_facts {L : List ND} (h : treeB L = true) : 0 < L.length ∧ (L.getD 0 (bare 0 .empty 0)).kind = 3 ∧ beh L L.length 0 = some L.length := by
  unfold treeB at h
  simp only [Bool.and_eq_true, decide_eq_true_eq] at h
  exact ⟨h.1.1, h.1.2, h.2⟩
theorem check_any (L : List ND) (hL : L.length < 1000000000) (v : Value) (bb en : Bool) (g : Int) (W : World) (h : NdsAt W v L) :
    Calls Tryz.prog 13 #[.agg #[v, .bool bb, .bool en, .int .i64 g]] W fun e w' => e = .returned (.int .i64 (chkR L g)) ∧ Below W.heap.size W w' := by
  obtain ⟨p, cap, rfl, hcap, hN⟩ := h
  by_cases h2 : 200 < L.length
  · have HC : Hid (chkR L g = 5) := Lib.hid (if_pos h2)
    have a1 : decide ((200 : Int) < (L.length : Int)) = true := decide_eq_true (by omega)
    have a2 : decide (200 < L.length) = true := decide_eq_true h2
    clear h2
    go_enter Tryz.func13, Tryz.ntmps13
    go_wp2
    go_ret
    exact ⟨by rw [HC.out]; rfl, (Below.refl _ W).alloc (Nat.le_refl _) _⟩
  · have a1 : decide ((200 : Int) < (L.length : Int)) = false := decide_eq_false (by omega)
    have a2 : decide (200 < L.length) = false := decide_eq_false h2
    obtain ⟨W1, hW1⟩ : ∃ W1, W.alloc (.cells #[.slice p L.length cap, .bool bb, .bool en, .int .i64 g] 25) = W1 := ⟨_, rfl⟩
    have hB1 : Below W.heap.size W W1 := by rw [← hW1]; exact (Below.refl _ W).alloc (Nat.le_refl _) _
    have s1 : CBlk 25 W1 W.heap.size [.slice p L.length cap, .bool bb, .bool en, .int .i64 g] := by rw [← hW1]; exact CBlk.new _ W _
    have hA1 : NdsAt W1 (.slice p L.length cap) L := ⟨p, cap, rfl, hcap, CellsIn.below hN hB1 (Nat.le_refl _)⟩
    have HT := Lib.hid (isTree_any L hL _ W1 hA1)
    obtain ⟨q, hq⟩ : ∃ q, treeB L = q := ⟨_, rfl⟩
    rw [hq] at HT
    have t0 := s1.cell 0 (by simp)
    have hz1 : W1.heap.size = W.heap.size + 1 := by rw [← hW1]; simp
    cases q with
    | false =>
      have HC : Hid (chkR L g = 3) := Lib.hid (by unfold chkR; rw [if_neg h2, hq]; rfl)
      clear hq h2 hA1 hN
      go_enter Tryz.func13, Tryz.ntmps13
      go_wp2_with fail
      refine HT.out.mono ?_
      rintro e w2 ⟨rfl, hB2⟩
      go_wp2
      go_ret
      exact ⟨by rw [HC.out]; rfl, hB1.trans (hB2.mono (by omega))⟩
    | true =>
      obtain ⟨f1, f2, f3⟩ := treeB_facts hq
      obtain ⟨b, off, rfl, hb⟩ := nds_place hN f1
      have HNM := Lib.hid fun w h1 h2 => isNumbered_any L f3 hL b off cap bb en g w h1 h2
      have HNW := Lib.hid hN
      obtain ⟨r, hr⟩ : ∃ q, nmB L g = q := ⟨_, rfl⟩
      rw [hr] at HNM
      have HC : Hid (chkR L g = if r = true then 0 else 14) := Lib.hid (by unfold chkR; rw [if_neg h2, if_pos hq, hr])
      clear hq h2 hA1 hN f1 f2 f3 hr
      cases r with
      | false =>
        go_enter Tryz.func13, Tryz.ntmps13
        go_wp2_with fail
        refine HT.out.mono ?_
        rintro e w2 ⟨rfl, hB2⟩
        have s2 := s1.below hB2 s1.lt
        obtain ⟨c0, c1, c2, c3⟩ : w2.cell? ⟨W.heap.size, 0, none⟩ = _ ∧ w2.cell? ⟨W.heap.size, 1, none⟩ = _ ∧ w2.cell? ⟨W.heap.size, 2, none⟩ = _ ∧ w2.cell? ⟨W.heap.size, 3, none⟩ = _ := ⟨s2.cell 0 (by simp), s2.cell 1 (by simp), s2.cell 2 (by simp), s2.cell 3 (by simp)⟩
        have hBW := hB1.trans (hB2.mono (by omega))
        have hz2 := hB2.size
        clear s1 s2 hB1 hB2 t0 HT
        go_wp2_with fail
        refine (HNM.out _ (CellsIn.below HNW.out hBW (Nat.le_refl _)) (by omega)).mono ?_
        rintro e w3 ⟨rfl, hB3⟩
        go_wp2
        go_ret
        exact ⟨by rw [HC.out]; rfl, hBW.trans (hB3.mono (by omega))⟩
      | true =>
        go_enter Tryz.func13, Tryz.ntmps13
        go_wp2_with fail
        refine HT.out.mono ?_
        rintro e w2 ⟨rfl, hB2⟩
        have s2 := s1.below hB2 s1.lt
        obtain ⟨c0, c1, c2, c3⟩ : w2.cell? ⟨W.heap.size, 0, none⟩ = _ ∧ w2.cell? ⟨W.heap.size, 1, none⟩ = _ ∧ w2.cell? ⟨W.heap.size, 2, none⟩ = _ ∧ w2.cell? ⟨W.heap.size, 3, none⟩ = _ := ⟨s2.cell 0 (by simp), s2.cell 1 (by simp), s2.cell 2 (by simp), s2.cell 3 (by simp)⟩
        have hBW := hB1.trans (hB2.mono (by omega))
        have hz2 := hB2.size
        clear s1 s2 hB1 hB2 t0 HT
        go_wp2_with fail
        refine (HNM.out _ (CellsIn.below HNW.out hBW (Nat.le_refl _)) (by omega)).mono ?_
        rintro e w3 ⟨rfl, hB3⟩
        go_wp2
        go_ret
        exact ⟨by rw [HC.out]; rfl, hBW.trans (hB3.mono (by omega))⟩
end Go.Proofs.YtdnbnigebejgjaaGreatDoor
namespace Go.Proofs.YtdnbnigebejgjaaGreatDoor
open Go.RowKit Go.Shelf
theorem numOK_has : ∀ (L : List ND) (c : Int), numOK L c = true → ∀ o : Int, c < o → o ≤ c + (gct L : Int) → ∃ n ∈ L, n.group = o
  | [], c, _, o, h1, h2 => by simp [gct] at h2; omega
  | n :: L, c, h, o, h1, h2 => by
    unfold numOK at h
    unfold gct at h2
    split at h
    · rename_i hk
      rw [if_pos hk] at h2
      rw [Bool.and_eq_true, decide_eq_true_eq] at h
      by_cases e : o = c + 1
      · exact ⟨n, List.mem_cons_self, h.1.trans e.symm⟩
      · obtain ⟨m, hm, hg⟩ := numOK_has L (c + 1) h.2 o (by omega) (by omega)
        exact ⟨m, List.mem_cons_of_mem _ hm, hg⟩
    · rename_i hk
      rw [if_neg hk] at h2
      obtain ⟨m, hm, hg⟩ := numOK_has L c h o h1 (by omega)
      exact ⟨m, List.mem_cons_of_mem _ hm, hg⟩
theorem plc_ex {L : List ND} {o : Int} (h : ∃ n ∈ L, n.group = o) : ∃ p, plc L o = some p := by
  cases hp : plc L o with
  | some p => exact ⟨p, rfl⟩
  | none =>
    unfold plc at hp
    rw [List.findIdx?_eq_none_iff] at hp
    obtain ⟨n, hn, hg⟩ := h
    have := hp n hn
    rw [decide_eq_false_iff_not] at this
    exact (this hg).elim
theorem snd_root {n : ND} (hk : n.kind = 3) (h : sndB n = true) : n.group = 0 := by
  unfold sndB at h
  rw [hk] at h
  simp at h
  exact h.1.1.2
theorem chk_zero {L : List ND} {g : Int} (h : chkR L g = 0) : L.length ≤ 200 ∧ treeB L = true ∧ nmB L g = true := by
  unfold chkR at h
  split at h
  · omega
  · split at h
    · split at h
      · exact ⟨by omega, ‹_›, ‹_›⟩
      · omega
    · omega
theorem plc_all {L : List ND} {g o : Int} (h : chkR L g = 0) (h0 : 0 ≤ o) (h1 : o ≤ g) : ∃ p, plc L o = some p := by
  obtain ⟨hl, ht, hn⟩ := chk_zero h
  obtain ⟨f1, f2, f3⟩ := treeB_facts ht
  refine plc_ex ?_
  by_cases e : o = 0
  · have hs : sndB (L.getD 0 (bare 0 .empty 0)) = true := by
      unfold beh at f3
      rw [dif_pos f1] at f3
      split at f3
      · rename_i hs
        rwa [List.getD_eq_getElem?_getD, List.getElem?_eq_getElem f1]
      · cases f3
    have hg := snd_root f2 hs
    rw [List.getD_eq_getElem?_getD, List.getElem?_eq_getElem f1] at hg
    exact ⟨L[0], List.getElem_mem _, by rw [e]; exact hg⟩
  · unfold nmB at hn
    simp only [Bool.and_eq_true, decide_eq_true_eq] at hn
    exact numOK_has L 0 hn.1 o (by omega) (by omega)
/-- What Inside says. -/
def insR (L : List ND) (g o i : Int) : Bool × Int :=
  if chkR L g = 0 then (if (0 ≤ o ∧ o ≤ g) ∧ (0 ≤ i ∧ i ≤ g) ∧ i ≠ 0 then (hdB L o i, 0) else (false, 2)) else (false, chkR L g)
set_option maxHeartbeats 4000000 in
theorem inside_any (L : List ND) (hL : L.length < 1000000000) (v : Value) (bb en : Bool) (g o i : Int) (W : World) (h : NdsAt W v L) :
    Calls Tryz.prog 21 #[.agg #[v, .bool bb, .bool en, .int .i64 g], .int .i64 o, .int .i64 i] W fun e w' => e = .returned (.tuple #[.bool (insR L g o i).1, .int .i64 (insR L g o i).2]) ∧ Below W.heap.size W w' := by
  obtain ⟨W1, hW1⟩ : ∃ W1, W.alloc (.cells #[v, .bool bb, .bool en, .int .i64 g] 25) = W1 := ⟨_, rfl⟩
  have hB1 : Below W.heap.size W W1 := by rw [← hW1]; exact (Below.refl _ W).alloc (Nat.le_refl _) _
  have s1 : CBlk 25 W1 W.heap.size [v, .bool bb, .bool en, .int .i64 g] := by rw [← hW1]; exact CBlk.new _ W _
  have hz1 : W1.heap.size = W.heap.size + 1 := by rw [← hW1]; simp
  have HC := Lib.hid (check_any L hL v bb en g W1 (h.below hB1 (Nat.le_refl _)))
  obtain ⟨t0, t1, t2, t3⟩ : W1.cell? ⟨W.heap.size, 0, none⟩ = _ ∧ W1.cell? ⟨W.heap.size, 1, none⟩ = _ ∧ W1.cell? ⟨W.heap.size, 2, none⟩ = _ ∧ W1.cell? ⟨W.heap.size, 3, none⟩ = _ := ⟨s1.cell 0 (by simp), s1.cell 1 (by simp), s1.cell 2 (by simp), s1.cell 3 (by simp)⟩
  obtain ⟨c, hc⟩ : ∃ c, chkR L g = c := ⟨_, rfl⟩
  rw [hc] at HC
  by_cases h0 : c = 0
  · subst h0
    obtain ⟨q1, hq1⟩ : ∃ q, decide (0 ≤ o ∧ o ≤ g) = q := ⟨_, rfl⟩
    obtain ⟨q2, hq2⟩ : ∃ q, decide (0 ≤ i ∧ i ≤ g) = q := ⟨_, rfl⟩
    obtain ⟨q3, hq3⟩ : ∃ q, decide (i = 0) = q := ⟨_, rfl⟩
    have hq4 : (i == 0) = q3 := by rw [← hq3]; rfl
    have HG1 := Lib.hid fun w => isGroup_any v bb en g o w
    have HG2 := Lib.hid fun w => isGroup_any v bb en g i w
    rw [hq1] at HG1
    rw [hq2] at HG2
    have HR : Hid (insR L g o i = if q1 = true ∧ q2 = true ∧ q3 = false then (hdB L o i, 0) else (false, 2)) := Lib.hid (by
      unfold insR
      rw [if_pos hc, ← hq1, ← hq2, ← hq3]
      simp only [decide_eq_true_eq, decide_eq_false_iff_not, ne_eq])
    have HA := Lib.hid h
    have HQ := Lib.hid (And.intro hq1 hq2)
    have HCK := Lib.hid hc
    clear hq1 hq2 hq3 hc h
    cases q1 with
    | false =>
      rw [show (if (false : Bool) = true ∧ q2 = true ∧ q3 = false then (hdB L o i, (0 : Int)) else (false, 2)) = (false, 2) from if_neg (by simp)] at HR
      go_enter Tryz.func21, Tryz.ntmps21
      go_wp2_with fail
      refine HC.out.mono ?_
      rintro e w2 ⟨rfl, hB2⟩
      have s2 := s1.below hB2 s1.lt
      obtain ⟨c0, c1, c2, c3⟩ : w2.cell? ⟨W.heap.size, 0, none⟩ = _ ∧ w2.cell? ⟨W.heap.size, 1, none⟩ = _ ∧ w2.cell? ⟨W.heap.size, 2, none⟩ = _ ∧ w2.cell? ⟨W.heap.size, 3, none⟩ = _ := ⟨s2.cell 0 (by simp), s2.cell 1 (by simp), s2.cell 2 (by simp), s2.cell 3 (by simp)⟩
      have hBW := hB1.trans (hB2.mono (by omega))
      clear s1 s2 hB1 hB2 t0 t1 t2 t3 HC
      go_wp2_with fail
      refine (HG1.out _).mono ?_
      rintro e w3 ⟨rfl, hB3⟩
      go_wp2
      go_ret2
      exact ⟨by rw [HR.out]; rfl, hBW.trans (hB3.mono (by have := hBW.size; omega))⟩
    | true =>
      cases q2 with
      | false =>
        rw [show (if (true : Bool) = true ∧ (false : Bool) = true ∧ q3 = false then (hdB L o i, (0 : Int)) else (false, 2)) = (false, 2) from if_neg (by simp)] at HR
        go_enter Tryz.func21, Tryz.ntmps21
        go_wp2_with fail
        refine HC.out.mono ?_
        rintro e w2 ⟨rfl, hB2⟩
        have s2 := s1.below hB2 s1.lt
        obtain ⟨c0, c1, c2, c3⟩ : w2.cell? ⟨W.heap.size, 0, none⟩ = _ ∧ w2.cell? ⟨W.heap.size, 1, none⟩ = _ ∧ w2.cell? ⟨W.heap.size, 2, none⟩ = _ ∧ w2.cell? ⟨W.heap.size, 3, none⟩ = _ := ⟨s2.cell 0 (by simp), s2.cell 1 (by simp), s2.cell 2 (by simp), s2.cell 3 (by simp)⟩
        have hBW := hB1.trans (hB2.mono (by omega))
        clear s1 hB1 hB2 t0 t1 t2 t3 HC
        go_wp2_with fail
        refine (HG1.out _).mono ?_
        rintro e w3 ⟨rfl, hB3⟩
        have s3 := s2.below hB3 s2.lt
        have hBV := hBW.trans (hB3.mono (by have := hBW.size; omega))
        clear c0 c1 c2 c3 s2 hBW hB3 HG1
        obtain ⟨c0, c1, c2, c3⟩ : w3.cell? ⟨W.heap.size, 0, none⟩ = _ ∧ w3.cell? ⟨W.heap.size, 1, none⟩ = _ ∧ w3.cell? ⟨W.heap.size, 2, none⟩ = _ ∧ w3.cell? ⟨W.heap.size, 3, none⟩ = _ := ⟨s3.cell 0 (by simp), s3.cell 1 (by simp), s3.cell 2 (by simp), s3.cell 3 (by simp)⟩
        go_wp2_with fail
        refine (HG2.out _).mono ?_
        rintro e w4 ⟨rfl, hB4⟩
        go_wp2
        go_ret2
        exact ⟨by rw [HR.out]; rfl, hBV.trans (hB4.mono (by have := hBV.size; omega))⟩
      | true =>
        cases q3 with
        | true =>
          rw [show (if (true : Bool) = true ∧ (true : Bool) = true ∧ (true : Bool) = false then (hdB L o i, (0 : Int)) else (false, 2)) = (false, 2) from if_neg (by simp)] at HR
          go_enter Tryz.func21, Tryz.ntmps21
          go_wp2_with fail
          refine HC.out.mono ?_
          rintro e w2 ⟨rfl, hB2⟩
          have s2 := s1.below hB2 s1.lt
          obtain ⟨c0, c1, c2, c3⟩ : w2.cell? ⟨W.heap.size, 0, none⟩ = _ ∧ w2.cell? ⟨W.heap.size, 1, none⟩ = _ ∧ w2.cell? ⟨W.heap.size, 2, none⟩ = _ ∧ w2.cell? ⟨W.heap.size, 3, none⟩ = _ := ⟨s2.cell 0 (by simp), s2.cell 1 (by simp), s2.cell 2 (by simp), s2.cell 3 (by simp)⟩
          have hBW := hB1.trans (hB2.mono (by omega))
          clear s1 hB1 hB2 t0 t1 t2 t3 HC
          go_wp2_with fail
          refine (HG1.out _).mono ?_
          rintro e w3 ⟨rfl, hB3⟩
          have s3 := s2.below hB3 s2.lt
          have hBV := hBW.trans (hB3.mono (by have := hBW.size; omega))
          clear c0 c1 c2 c3 s2 hBW hB3 HG1
          obtain ⟨c0, c1, c2, c3⟩ : w3.cell? ⟨W.heap.size, 0, none⟩ = _ ∧ w3.cell? ⟨W.heap.size, 1, none⟩ = _ ∧ w3.cell? ⟨W.heap.size, 2, none⟩ = _ ∧ w3.cell? ⟨W.heap.size, 3, none⟩ = _ := ⟨s3.cell 0 (by simp), s3.cell 1 (by simp), s3.cell 2 (by simp), s3.cell 3 (by simp)⟩
          go_wp2_with fail
          refine (HG2.out _).mono ?_
          rintro e w4 ⟨rfl, hB4⟩
          go_wp2
          go_ret2
          exact ⟨by rw [HR.out]; rfl, hBV.trans (hB4.mono (by have := hBV.size; omega))⟩
        | false =>
          rw [show (if (true : Bool) = true ∧ (true : Bool) = true ∧ (false : Bool) = false then (hdB L o i, (0 : Int)) else (false, 2)) = (hdB L o i, 0) from if_pos (by simp)] at HR
          obtain ⟨p, cap, rfl, hcap, hN⟩ := HA.out
          obtain ⟨hl, ht, hn⟩ := chk_zero HCK.out
          obtain ⟨f1, f2, f3⟩ := treeB_facts ht
          obtain ⟨b, off, rfl, hb⟩ := nds_place hN f1
          obtain ⟨ho1, ho2⟩ := of_decide_eq_true HQ.out.1
          obtain ⟨pp, hpp⟩ := plc_all HCK.out ho1 ho2
          have HHO := Lib.hid fun w h1 h2 => holds_any L f3 b off cap o i pp hpp w h1 h2
          have HNW := Lib.hid hN
          clear hl ht hn f1 f2 f3 hN ho1 ho2 hpp hcap
          go_enter Tryz.func21, Tryz.ntmps21
          go_wp2_with fail
          refine HC.out.mono ?_
          rintro e w2 ⟨rfl, hB2⟩
          have s2 := s1.below hB2 s1.lt
          obtain ⟨c0, c1, c2, c3⟩ : w2.cell? ⟨W.heap.size, 0, none⟩ = _ ∧ w2.cell? ⟨W.heap.size, 1, none⟩ = _ ∧ w2.cell? ⟨W.heap.size, 2, none⟩ = _ ∧ w2.cell? ⟨W.heap.size, 3, none⟩ = _ := ⟨s2.cell 0 (by simp), s2.cell 1 (by simp), s2.cell 2 (by simp), s2.cell 3 (by simp)⟩
          have hBW := hB1.trans (hB2.mono (by omega))
          clear s1 hB1 hB2 t0 t1 t2 t3 HC
          go_wp2_with fail
          refine (HG1.out _).mono ?_
          rintro e w3 ⟨rfl, hB3⟩
          have s3 := s2.below hB3 s2.lt
          have hBV := hBW.trans (hB3.mono (by have := hBW.size; omega))
          clear c0 c1 c2 c3 s2 hBW hB3 HG1
          obtain ⟨c0, c1, c2, c3⟩ : w3.cell? ⟨W.heap.size, 0, none⟩ = _ ∧ w3.cell? ⟨W.heap.size, 1, none⟩ = _ ∧ w3.cell? ⟨W.heap.size, 2, none⟩ = _ ∧ w3.cell? ⟨W.heap.size, 3, none⟩ = _ := ⟨s3.cell 0 (by simp), s3.cell 1 (by simp), s3.cell 2 (by simp), s3.cell 3 (by simp)⟩
          go_wp2_with fail
          refine (HG2.out _).mono ?_
          rintro e w4 ⟨rfl, hB4⟩
          have s4 := s3.below hB4 s3.lt
          have hBU := hBV.trans (hB4.mono (by have := hBV.size; omega))
          clear c0 c1 c2 c3 s3 hBV hB4 HG2
          have c0 := s4.cell 0 (by simp)
          go_wp2_with fail
          refine (HHO.out _ (CellsIn.below HNW.out hBU (Nat.le_refl _)) (by have := hBU.size; omega)).mono ?_
          rintro e w5 ⟨rfl, hB5⟩
          go_wp2
          go_ret2
          exact ⟨by rw [HR.out]; rfl, hBU.trans (hB5.mono (by have := hBU.size; omega))⟩
  · have HR : Hid (insR L g o i = (false, c)) := Lib.hid (by unfold insR; rw [hc, if_neg h0])
    have a1 : (c == 0) = false := by simpa using h0
    have a2 : (c != 0) = true := by simpa using h0
    clear h0 hc
    go_enter Tryz.func21, Tryz.ntmps21
    go_wp2_with fail
    refine HC.out.mono ?_
    rintro e w2 ⟨rfl, hB2⟩
    go_wp2
    go_ret2
    exact ⟨by rw [HR.out]; rfl, hB1.trans (hB2.mono (by omega))⟩
end Go.Proofs.YtdnbnigebejgjaaGreatDoor
namespace Go.Proofs.YtdnbnigebejgjaaGreatDoor
open Go.RowKit Go.Shelf
def dsjI (L : List ND) (x : Int) (P : List Int) : Bool := P.all fun y => !(hdB L x y || hdB L y x)
def dsjO (L : List ND) : List Int → List Int → Bool
  | _, [] => true
  | P, x :: r => dsjI L x P && dsjO L (P ++ [x]) r
/-- What Disjoint says. -/
def disR (L : List ND) (g : Int) (G : List Int) : Bool × Int :=
  if G.all (fun x => decide (0 ≤ x ∧ x ≤ g)) = true then (dsjO L [] G, 0) else (false, 2)
theorem intsD {G : List Int} {j : Nat} (hj : j < G.length) : G.drop j = G.getD j 0 :: G.drop (j + 1) := by
  rw [List.getD_eq_getElem?_getD, List.getElem?_eq_getElem hj, List.drop_eq_getElem_cons hj]
  rfl
set_option maxHeartbeats 8000000 in
set_option maxRecDepth 100000 in
theorem disjoint_any (L : List ND) (hL : L.length < 1000000000) (v : Value) (bb en : Bool) (g : Int) (hck : chkR L g = 0) (pg : Option Addr) (cg : Nat) (G : List Int) (hlen : G.length < 1000000) (hcg : G.length ≤ cg) (hcm : cg ≤ 9223372036854775807) (W : World) (h : NdsAt W v L) (hG : CellsIn W pg G.length (intC fun j => G.getD j 0)) :
    Calls Tryz.prog 24 #[.agg #[v, .bool bb, .bool en, .int .i64 g], .slice pg G.length cg] W fun e w' => e = .returned (.tuple #[.bool (disR L g G).1, .int .i64 (disR L g G).2]) ∧ Below W.heap.size W w' := by
  obtain ⟨W1, hW1⟩ : ∃ W1, W.alloc (.cells #[v, .bool bb, .bool en, .int .i64 g] 25) = W1 := ⟨_, rfl⟩
  have hB1 : Below W.heap.size W W1 := by rw [← hW1]; exact (Below.refl _ W).alloc (Nat.le_refl _) _
  have s1 : CBlk 25 W1 W.heap.size [v, .bool bb, .bool en, .int .i64 g] := by rw [← hW1]; exact CBlk.new _ W _
  have hz1 : W1.heap.size = W.heap.size + 1 := by rw [← hW1]; simp
  have HC := Lib.hid (check_any L hL v bb en g W1 (h.below hB1 (Nat.le_refl _)))
  rw [hck] at HC
  obtain ⟨t0, t1, t2, t3⟩ : W1.cell? ⟨W.heap.size, 0, none⟩ = _ ∧ W1.cell? ⟨W.heap.size, 1, none⟩ = _ ∧ W1.cell? ⟨W.heap.size, 2, none⟩ = _ ∧ W1.cell? ⟨W.heap.size, 3, none⟩ = _ := ⟨s1.cell 0 (by simp), s1.cell 1 (by simp), s1.cell 2 (by simp), s1.cell 3 (by simp)⟩
  have HA := Lib.hid h
  have HG := Lib.hid hG
  have HCK := Lib.hid hck
  clear h hG hck
  go_enter Tryz.func24, Tryz.ntmps24
  go_wp2_with fail
  refine HC.out.mono ?_
  rintro e w2 ⟨rfl, hB2⟩
  have s2 := s1.below hB2 s1.lt
  have hBW := hB1.trans (hB2.mono (by omega))
  clear s1 hB1 hB2 t0 t1 t2 t3 HC
  go_wp2_with fail
  go_loopw [20] (fun i wr => ∃ k : Nat, k ≤ G.length ∧ i = .int .i64 k ∧ Hid (G.all (fun x => decide (0 ≤ x ∧ x ≤ g)) = (G.drop k).all (fun x => decide (0 ≤ x ∧ x ≤ g))) ∧ Hid (CBlk 25 wr W.heap.size [v, .bool bb, .bool en, .int .i64 g]) ∧ Below W.heap.size W wr) (fun i _ => G.length - (intOf i).toNat)
  case atStart => exact ⟨0, Nat.zero_le _, rfl, Lib.hid rfl, Lib.hid s2, hBW⟩
  case round =>
    obtain ⟨k, hk, rfl, hall, hs, hB⟩ := hrel
    clear s2 hBW
    by_cases hlt : k < G.length
    · have b1 : (k : Int) < (G.length : Int) := by omega
      obtain ⟨bg, og, rfl, hbg, hcell⟩ := (HG.out.below hB (Nat.le_refl _)) k hlt
      have hall2 := hall.out
      rw [intsD hlt, List.all_cons] at hall2
      obtain ⟨x, hx⟩ : ∃ x, G.getD k 0 = x := ⟨_, rfl⟩
      rw [hx] at hall2
      have hcell' : wr.cell? ⟨bg, og + k, none⟩ = some (.int .i64 x) := by rw [hcell]; unfold intC; dsimp only; rw [hx]
      obtain ⟨q, hq⟩ : ∃ q, decide (0 ≤ x ∧ x ≤ g) = q := ⟨_, rfl⟩
      have HGR := Lib.hid fun w => isGroup_any v bb en g x w
      rw [hq] at HGR hall2
      have HAL := Lib.hid hall2
      obtain ⟨c0, c1, c2, c3⟩ : wr.cell? ⟨W.heap.size, 0, none⟩ = _ ∧ wr.cell? ⟨W.heap.size, 1, none⟩ = _ ∧ wr.cell? ⟨W.heap.size, 2, none⟩ = _ ∧ wr.cell? ⟨W.heap.size, 3, none⟩ = _ := ⟨hs.out.cell 0 (by simp), hs.out.cell 1 (by simp), hs.out.cell 2 (by simp), hs.out.cell 3 (by simp)⟩
      have ww : IntKind.i64.wrap ((k : Int) + 1) = (k : Int) + 1 := jwrap (by omega) (by omega)
      clear hcell hx hq hall2 hall
      cases q with
      | true =>
        go_wp2_with fail
        refine (HGR.out _).mono ?_
        rintro e w3 ⟨rfl, hB3⟩
        have hs3 := Lib.hid (hs.out.below hB3 hs.out.lt)
        have hB4 := hB.trans (hB3.mono hB.size)
        clear c0 c1 c2 c3
        go_wp2
        go_roundw
        case rel => exact ⟨k + 1, by omega, by go_num, Lib.hid HAL.out, hs3, hB4⟩
        case measure => simp [intOf]; omega
      | false =>
        have HR : Hid (disR L g G = (false, 2)) := Lib.hid (by unfold disR; rw [HAL.out]; rfl)
        go_wp2_with fail
        refine (HGR.out _).mono ?_
        rintro e w3 ⟨rfl, hB3⟩
        go_wp2
        go_ret2
        exact ⟨by rw [HR.out]; rfl, hB.trans (hB3.mono hB.size)⟩
    · obtain rfl : k = G.length := by omega
      have HR : Hid (disR L g G = (dsjO L [] G, 0)) := Lib.hid (by unfold disR; rw [hall.out, List.drop_length]; rfl)
      obtain ⟨p, cap, rfl, hcap, hN⟩ := HA.out
      obtain ⟨hl, ht, hn⟩ := chk_zero HCK.out
      obtain ⟨f1, f2, f3⟩ := treeB_facts ht
      obtain ⟨b, off, rfl, hb⟩ := nds_place hN f1
      have hall1 : ∀ x ∈ G, 0 ≤ x ∧ x ≤ g := by
        have := hall.out
        rw [List.drop_length] at this
        intro x hx
        have h2 := List.all_eq_true.1 this x hx
        exact of_decide_eq_true h2
      have HHO := Lib.hid fun x y w (hx : x ∈ G) h1 h2 => by
        obtain ⟨pp, hpp⟩ := plc_all HCK.out (hall1 x hx).1 (hall1 x hx).2
        exact holds_any L f3 b off cap x y pp hpp w h1 h2
      have HNW := Lib.hid hN
      clear hl ht hn f1 f2 f3 hN hcap hall hall1 HA hlt
      have hBL : ∀ w', Below W.heap.size W w' → NdsIn w' (some ⟨b, off, none⟩) L := fun w' hb => CellsIn.below HNW.out hb (Nat.le_refl _)
      obtain ⟨R, hR⟩ : ∃ R, dsjO L [] G = R := ⟨_, rfl⟩
      rw [hR] at HR
      have HR2 := Lib.hid hR
      clear hR
      go_wp2_with fail
      go_loopw [31] (fun i wr => ∃ k : Nat, k ≤ G.length ∧ i = .int .i64 k ∧ Hid (dsjO L (G.take k) (G.drop k) = R) ∧ Hid (CBlk 25 wr W.heap.size [.slice (some ⟨b, off, none⟩) L.length cap, .bool bb, .bool en, .int .i64 g]) ∧ Below W.heap.size W wr) (fun i _ => G.length - (intOf i).toNat)
      case atStart => exact ⟨0, Nat.zero_le _, rfl, Lib.hid HR2.out, hs, hB⟩
      case round =>
        obtain ⟨k, hk, rfl, hall, hs, hB⟩ := hrel
        by_cases hlt : k < G.length
        · have b1 : (k : Int) < (G.length : Int) := by omega
          have b2 : (k : Int) ≤ (cg : Int) := by omega
          obtain ⟨bg, og, rfl, hbg, hcell⟩ := (HG.out.below hB (Nat.le_refl _)) k hlt
          have hall2 := hall.out
          obtain ⟨x, hx⟩ : ∃ x, G.getD k 0 = x := ⟨_, rfl⟩
          have hxm : x ∈ G := by rw [← hx, List.getD_eq_getElem?_getD, List.getElem?_eq_getElem hlt]; exact List.getElem_mem _
          rw [intsD hlt, hx, dsjO] at hall2
          have hcell' : wr.cell? ⟨bg, og + k, none⟩ = some (.int .i64 x) := by rw [hcell]; unfold intC; dsimp only; rw [hx]
          have htk : G.take k ++ [x] = G.take (k + 1) := by
            rw [List.take_add_one, List.getElem?_eq_getElem hlt, ← hx, List.getD_eq_getElem?_getD, List.getElem?_eq_getElem hlt]
            rfl
          rw [htk] at hall2
          have HAL := Lib.hid hall2
          have HXM := Lib.hid hxm
          have ww : IntKind.i64.wrap ((k : Int) + 1) = (k : Int) + 1 := jwrap (by omega) (by omega)
          clear hcell hx hxm htk hall2 hall
          go_wp2_with fail
          go_loopw [40] (fun i wr => ∃ j : Nat, j ≤ k ∧ i = .int .i64 j ∧ Hid ((dsjI L x ((G.take k).drop j) && dsjO L (G.take (k + 1)) (G.drop (k + 1))) = R) ∧ Hid (CBlk 25 wr W.heap.size [.slice (some ⟨b, off, none⟩) L.length cap, .bool bb, .bool en, .int .i64 g]) ∧ Below W.heap.size W wr) (fun i _ => k - (intOf i).toNat)
          case atStart => exact ⟨0, Nat.zero_le _, rfl, Lib.hid HAL.out, hs, hB⟩
          case round =>
            obtain ⟨j, hj, rfl, hall, hs, hB⟩ := hrel
            by_cases hjk : j < k
            · have b3 : (j : Int) < (k : Int) := by omega
              obtain ⟨bg', og', heq, hbg', hcellj⟩ := (HG.out.below hB (Nat.le_refl _)) j (by omega)
              injection heq with heq
              injection heq with e1 e2
              subst e1 e2
              obtain ⟨y, hy⟩ : ∃ y, G.getD j 0 = y := ⟨_, rfl⟩
              have hym : y ∈ G := by rw [← hy, List.getD_eq_getElem?_getD, List.getElem?_eq_getElem (by omega : j < G.length)]; exact List.getElem_mem _
              have hcj : wr.cell? ⟨bg, og + j, none⟩ = some (.int .i64 y) := by rw [hcellj]; unfold intC; dsimp only; rw [hy]
              have hdr : (G.take k).drop j = y :: (G.take k).drop (j + 1) := by
                rw [List.drop_eq_getElem_cons (by rw [List.length_take]; omega), List.getElem_take, ← hy, List.getD_eq_getElem?_getD, List.getElem?_eq_getElem (by omega : j < G.length)]
                rfl
              have hall2 := hall.out
              rw [hdr, dsjI, List.all_cons] at hall2
              obtain ⟨q, hq⟩ : ∃ q, hdB L x y = q := ⟨_, rfl⟩
              obtain ⟨r, hr⟩ : ∃ q, hdB L y x = q := ⟨_, rfl⟩
              rw [hq, hr] at hall2
              have HH1 := Lib.hid fun w => HHO.out x y w HXM.out
              have HH2 := Lib.hid fun w => HHO.out y x w hym
              rw [hq] at HH1
              rw [hr] at HH2
              have HA2 := Lib.hid hall2
              have c0 := hs.out.cell 0 (by simp)
              have hwz := hB.size
              have wj : IntKind.i64.wrap ((j : Int) + 1) = (j : Int) + 1 := jwrap (by omega) (by omega)
              clear hcellj hy hym hdr hall2 hq hr hall
              cases q with
              | true =>
                have hRF : R = false := by rw [← HA2.out]; rfl
                subst hRF
                go_wp2_with fail
                refine (HH1.out _ (hBL _ hB) (by omega)).mono ?_
                rintro e w3 ⟨rfl, hB3⟩
                go_wp2
                go_ret2
                exact ⟨by rw [HR.out]; rfl, hB.trans (hB3.mono hB.size)⟩
              | false =>
                go_wp2_with fail
                refine (HH1.out _ (hBL _ hB) (by omega)).mono ?_
                rintro e w3 ⟨rfl, hB3⟩
                have hs3 := hs.out.below hB3 hs.out.lt
                have hB4 := hB.trans (hB3.mono hB.size)
                have hwz3 := hB3.size
                clear c0
                have c0 := hs3.cell 0 (by simp)
                go_wp2_with fail
                refine (HH2.out _ (hBL _ hB4) (by omega)).mono ?_
                rintro e w4 ⟨rfl, hB5⟩
                have hs4 := Lib.hid (hs3.below hB5 hs3.lt)
                have hB6 := hB4.trans (hB5.mono hB4.size)
                cases r with
                | true =>
                  have hRF : R = false := by rw [← HA2.out]; rfl
                  subst hRF
                  go_wp2
                  go_ret2
                  exact ⟨by rw [HR.out]; rfl, hB6⟩
                | false =>
                  clear c0
                  go_wp2
                  go_roundw
                  case rel => exact ⟨j + 1, by omega, by go_num, Lib.hid HA2.out, hs4, hB6⟩
                  case measure => simp [intOf]; omega
            · obtain rfl : j = k := by omega
              have hall2 := hall.out
              rw [List.drop_eq_nil_of_le (by rw [List.length_take]; omega)] at hall2
              have HA2 : Hid (dsjO L (G.take (j + 1)) (G.drop (j + 1)) = R) := Lib.hid hall2
              clear hall2 hall
              go_wp2
              go_roundw
              case rel => exact ⟨j + 1, by omega, by go_num, HA2, hs, hB⟩
              case measure => simp [intOf]; omega
        · obtain rfl : k = G.length := by omega
          have hRT : R = true := by
            rw [← hall.out, List.drop_length]
            rfl
          subst hRT
          go_wp2
          go_ret2
          exact ⟨by rw [HR.out]; rfl, hB⟩
end Go.Proofs.YtdnbnigebejgjaaGreatDoor
