/-
  pattern.Atoms for any nodes.
-/
import Derived.Test.YtdnbnigebejgjaaGreatDoorHW7
namespace Go.Proofs.YtdnbnigebejgjaaGreatDoor
open Go.RowKit Go.Shelf
attribute [local go_sem] Oper.semAt_some Oper.askedIn wide_fn
theorem atmN_cons (n : ND) (L : List ND) : atmN (n :: L) = (if n.kind = 1 then 1 else 0) + atmN L := by
  unfold atmN
  rw [List.countP_cons]
  by_cases h : n.kind = 1
  · rw [if_pos h, if_pos (by simpa using h)]; omega
  · rw [if_neg h, if_neg (by simpa using h)]; omega
def AtI (L : List ND) (v0 v1 v2 v3 : Value) (W : World) (N1 M j : Nat) (X : World) : Prop :=
  ∃ c : Nat, c ≤ j ∧ atmN L = c + atmN (L.drop j) ∧ CBlk 25 X W.heap.size [v0, v1, v2, v3] ∧ CBlk 3 X N1 [.int .i64 (c : Int)] ∧ Below W.heap.size W X ∧ M ≤ X.heap.size
set_option maxHeartbeats 8000000 in
set_option maxRecDepth 100000 in
theorem atoms_any (L : List ND) (hL : L.length < 1000000000) (v : Value) (bb en : Bool) (g : Int) (W : World) (h : NdsAt W v L) :
    Calls Tryz.prog 15 #[.agg #[v, .bool bb, .bool en, .int .i64 g]] W fun e w' => e = .returned (.tuple #[.int .i64 (atmR L g).1, .int .i64 (atmR L g).2]) ∧ Below W.heap.size W w' := by
  have hB1 : Below W.heap.size W (W.alloc (.cells #[v, .bool bb, .bool en, .int .i64 g] 25)) := (Below.refl _ W).alloc (Nat.le_refl _) _
  have s1 : CBlk 25 (W.alloc (.cells #[v, .bool bb, .bool en, .int .i64 g] 25)) W.heap.size [v, .bool bb, .bool en, .int .i64 g] := CBlk.new _ W _
  have HC := Lib.hid (check_any L hL v bb en g _ (h.below hB1 (Nat.le_refl _)))
  obtain ⟨t0, t1, t2, t3⟩ : (W.alloc (.cells #[v, .bool bb, .bool en, .int .i64 g] 25)).cell? ⟨W.heap.size, 0, none⟩ = _ ∧ (W.alloc (.cells #[v, .bool bb, .bool en, .int .i64 g] 25)).cell? ⟨W.heap.size, 1, none⟩ = _ ∧ (W.alloc (.cells #[v, .bool bb, .bool en, .int .i64 g] 25)).cell? ⟨W.heap.size, 2, none⟩ = _ ∧ (W.alloc (.cells #[v, .bool bb, .bool en, .int .i64 g] 25)).cell? ⟨W.heap.size, 3, none⟩ = _ := ⟨s1.cell 0 (by simp), s1.cell 1 (by simp), s1.cell 2 (by simp), s1.cell 3 (by simp)⟩
  obtain ⟨c, hc⟩ : ∃ c, chkR L g = c := ⟨_, rfl⟩
  rw [hc] at HC
  by_cases h0 : c = 0
  · subst h0
    have HR : Hid (atmR L g = ((atmN L : Int), 0)) := Lib.hid (by unfold atmR; rw [if_pos hc])
    obtain ⟨b, off, cap, rfl, hb, hN⟩ := tree_open hc h
    have hbe : beh L L.length 0 = some L.length := (treeB_facts (chk_zero hc).2.1).2.2
    have HN := Lib.hid hN
    have HB := Lib.hid hb
    have HBE := Lib.hid hbe
    clear hN h hc hbe
    suffices hs : ∀ n, CallsIn Fence.wide n Tryz.prog 15 #[.agg #[.slice (some ⟨b, off, none⟩) L.length cap, .bool bb, .bool en, .int .i64 g]] W fun e w' => e = .returned (.tuple #[.int .i64 (atmR L g).1, .int .i64 (atmR L g).2]) ∧ Below W.heap.size W w' from callsIn_wide.1 (hs 0)
    intro n
    refine callsIn_of_wp_marks Tryz.func15 rfl trivial ?_ rfl
    simp only [Tryz.ntmps15, List.size_toArray, List.length_cons, List.length_nil, Nat.reduceAdd, Nat.reduceSub, Array.replicate_succ, Array.replicate_zero, List.push_toArray, List.append_toArray, List.nil_append, List.cons_append]
    gi_wp2_with fail
    refine ⟨(fun h => by cases h), (callsIn_wide.2 HC.out).mono ?_⟩
    rintro e w2 ⟨rfl, hB2⟩
    have s2 := s1.below hB2 s1.lt
    have hBW := hB1.trans (hB2.mono hB1.size)
    obtain ⟨N1, hN1⟩ : ∃ N1, w2.heap.size = N1 := ⟨_, rfl⟩
    have hN1W : W.heap.size < N1 := by
      have := hB2.size
      rw [World.size_alloc] at this
      omega
    clear s1 hB1 hB2 t0 t1 t2 t3 HC
    gi_upto_region 5 with fail
    generalize hW0 : w2.alloc (.cells #[.int .i64 0] 3) = W0
    have s0 : CBlk 25 W0 W.heap.size [.slice (some ⟨b, off, none⟩) L.length cap, .bool bb, .bool en, .int .i64 g] := by rw [← hW0]; exact s2.alloc _
    have s3 : CBlk 3 W0 N1 [.int .i64 ((0 : Nat) : Int)] := by rw [← hW0, ← hN1]; exact CBlk.new _ w2 _
    have hB0 : Below W.heap.size W W0 := by rw [← hW0]; exact hBW.alloc hBW.size _
    have hz0 : W0.heap.size = N1 + 1 := by rw [← hW0, ← hN1]; simp
    have t0 := s0.cell 0 (by simp)
    clear hW0 s2 hBW hN1
    gi_wp2_with fail
    refine ⟨(fun h => by cases h), (callsIn_wide.2 (below_any _ _ _ _ _)).mono ?_⟩
    rintro e w' ⟨rfl, rfl⟩
    generalize hX3 : (W0.alloc (.cells #[.slice (some ⟨b, off, none⟩) L.length cap] 23)).alloc (.cells #[.int .i64 0] 3) = X3
    have g0 := (s0.alloc (.cells #[.slice (some ⟨b, off, none⟩) L.length cap] 23)).alloc (.cells #[.int .i64 0] 3)
    have g2 := (s3.alloc (.cells #[.slice (some ⟨b, off, none⟩) L.length cap] 23)).alloc (.cells #[.int .i64 0] 3)
    have g4 : CBlk 23 X3 W0.heap.size [.slice (some ⟨b, off, none⟩) L.length cap] := by rw [← hX3]; exact (CBlk.new _ W0 _).alloc _
    have g5 : CBlk 3 X3 (W0.heap.size + 1) [.int .i64 ((0 : Nat) : Int)] := by
      rw [← hX3]
      have := CBlk.new 3 (W0.alloc (.cells #[.slice (some ⟨b, off, none⟩) L.length cap] 23)) [.int .i64 0]
      rwa [World.size_alloc] at this
    rw [hX3] at g0 g2
    rw [hz0] at g4 g5
    have hB3 : Below W.heap.size W X3 := by rw [← hX3]; exact (hB0.alloc (by omega) _).alloc (by simp; omega) _
    have hz3 : X3.heap.size = N1 + 3 := by rw [← hX3]; simp [hz0]
    have hN3 : NdsIn X3 (some ⟨b, off, none⟩) L := CellsIn.below HN.out hB3 (Nat.le_refl _)
    have HB3 := Lib.hid hB3
    rw [hz0]
    clear hX3 s0 s3 t0 hB0 hB3 hz0
    gi_wp2_with fail
    refine rangeN (fid := 63) (lb := #[.pointer (some ⟨N1 + 1, 0, none⟩), .pointer (some ⟨N1 + 1 + 1, 0, none⟩)]) (E := numE 0 L.length) (ks := fun k => k = b)
      rfl (enters_of Tryz.func63 (by kernel_rfl) rfl) (fun j hj => by simp [numE]) ?iter (fun k hk => by have := HB.out; omega)
      (AtI L (.slice (some ⟨b, off, none⟩) L.length cap) (.bool bb) (.bool en) (.int .i64 g) W N1 X3.heap.size) (fun _ => False) ?hI ?hIx ?h0 ?round ?done ?stop
    case iter => exact below_iter L L.length 0 L.length HBE.out b off cap (N1 + 1) (N1 + 1 + 1) (fun k => k = b) X3 hN3 g4 g5 rfl (fun i hi => by have := HB.out; omega)
    case hI =>
      rintro j X X' row ⟨c, x1, x2, y0, y2, y3, y4⟩ hg hr
      have hne : ∀ i, i < X3.heap.size → some i ≠ row := fun i hi e => by have := (hr i e.symm); omega
      exact ⟨c, x1, x2, y0.kept hg (hne _ (by omega)), y2.kept hg (hne _ (by omega)), y3.grown hg (by omega) (fun r e => by have := hr r e; omega), Nat.le_trans y4 hg.size⟩
    case hIx => exact fun X X' row h _ _ => h
    case h0 => exact ⟨0, Nat.le_refl _, by simp, g0, g2, HB3.out, Nat.le_refl _⟩
    case stop => exact fun X h => h.elim
    case done =>
      rintro X ⟨c, x1, x2, y0, y2, y3, y4⟩ hz hD
      rw [numE_len, Nat.sub_zero, List.drop_length] at x2
      have hc : atmN L = c := x2
      rw [hc] at HR
      have HD := Lib.hid hD
      have Y3 := Lib.hid y3
      have c2 := y2.cell1
      clear g0 g2 g4 g5 x1 x2 hc hD y0 y2 y3 hN3
      gi_wp2_with fail
      have hgp := grownBy_putObj' X X3.heap.size (.deferred none)
      refine ⟨by simp, .inl ⟨_, _, rfl, run_takeDeferred HD.out, ?_⟩⟩
      refine ⟨.tuple #[.int .i64 (c : Int), .int .i64 0], by simp [Go.results, Tryz.results15, go_sem], by rw [HR.out], Y3.out.grown hgp (by have := Y3.out.size; omega) (fun r hr => by injection hr; omega)⟩
    case round =>
      rintro j hj m X ⟨c, x1, x2, y0, y2, y3, y4⟩ hz
      rw [numE_at]
      rw [numE_len] at hj
      have hjl : j < L.length := by omega
      rw [List.drop_eq_getElem_cons hjl] at x2
      obtain ⟨nd, hnd⟩ : ∃ nd, L[j] = nd := ⟨_, rfl⟩
      rw [hnd, atmN_cons] at x2
      rw [Nat.zero_add]
      clear g0 g2 g4 g5 hN3 hj
      gi_wp2
      refine ⟨trivial, ?_⟩
      intro X2 hg2
      have hne : ∀ i, i < X3.heap.size → some i ≠ some (X3.heap.size + 1) := fun i hi e => by injection e; omega
      have z0 := y0.kept hg2 (hne _ (by omega))
      have z2 := y2.kept hg2 (hne _ (by omega))
      have z3 := y3.grown hg2 (by omega) (fun r e => by injection e; omega)
      have hz2 := hg2.size
      have hN2 : NdsIn X2 (some ⟨b, off, none⟩) L := CellsIn.below HN.out z3 (Nat.le_refl _)
      have t0 := z0.cell 0 (by simp)
      have t2 := z2.cell1
      have c0 := nd_cells hN2 hjl 0 (by omega)
      rw [hnd] at c0
      rw [show (ndC nd).getD 0 (.int .i64 0) = .int .i64 nd.kind from rfl, Nat.add_zero] at c0
      have hb1 : (j : Int) < (L.length : Int) := by omega
      have Z3 := Lib.hid z3
      have Z0 := Lib.hid z0
      clear y0 y2 y3 hg2 hN2 z3 z0
      by_cases hk : nd.kind = 1
      · have hq : (nd.kind == 1) = true := by simpa using hk
        rw [if_pos hk] at x2
        have XX := Lib.hid x2
        have fz2 := z2.free 0
        have hw : IntKind.i64.wrap ((c : Int) + 1) = (c : Int) + 1 := jwrap (by omega) (by omega)
        clear x2 hk
        gi_wp2_with fail
        have v2 := z2.set 0 (.int .i64 ((c : Int) + 1))
        have v0 := Z0.out.other ⟨N1, 0, none⟩ (by show N1 ≠ _; omega) (.int .i64 ((c : Int) + 1))
        have v3 := Z3.out.setCell (p := ⟨N1, 0, none⟩) (by show W.heap.size ≤ N1; omega) (.int .i64 ((c : Int) + 1))
        have hg1 : X2.grownBy (X2.setCell ⟨N1, 0, none⟩ (.int .i64 ((c : Int) + 1))) (some N1) := jgset X2 N1 0 _
        have hK1 : KeepsAt (fun k => k < X2.heap.size ∧ k ≠ N1) X2 (X2.setCell ⟨N1, 0, none⟩ (.int .i64 ((c : Int) + 1))) := keepsAt_grown hg1 (fun k hk => ⟨by omega, fun e => by injection e; omega⟩)
        have hcast : (c : Int) + 1 = ((c + 1 : Nat) : Int) := by omega
        have hx := XX.out
        exact ⟨⟨hK1 _ (by omega), hK1 _ (by omega)⟩, hK1.mono' (fun i hi => by rcases hi with rfl | h; omega; omega), by have := hg1.size; omega, c + 1, by omega, by omega, v0, by rw [← hcast]; exact v2, v3, by have := hg1.size; omega⟩
      · have hq : (nd.kind == 1) = false := by simpa using hk
        rw [if_neg hk, Nat.zero_add] at x2
        have XX := Lib.hid x2
        have Z2 := Lib.hid z2
        clear x2 hk z2
        gi_wp2_with fail
        exact ⟨⟨rfl, rfl⟩, KeepsAt.refl _ _, Nat.le_refl _, c, by omega, XX.out, Z0.out, Z2.out, Z3.out, by omega⟩
  · have HR : Hid (atmR L g = (0, c)) := Lib.hid (by unfold atmR; rw [hc, if_neg h0])
    have a1 : (c == 0) = false := by simpa using h0
    have a2 : (c != 0) = true := by simpa using h0
    clear h0 hc
    go_enter Tryz.func15, Tryz.ntmps15
    go_wp2_with fail
    refine HC.out.mono ?_
    rintro e w2 ⟨rfl, hB2⟩
    go_wp2
    go_ret2
    exact ⟨by rw [HR.out]; rfl, hB1.trans (hB2.mono hB1.size)⟩
end Go.Proofs.YtdnbnigebejgjaaGreatDoor
