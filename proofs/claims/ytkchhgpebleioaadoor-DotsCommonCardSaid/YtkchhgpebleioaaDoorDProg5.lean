/-
  The program's segments, for texts shorter than 90000 bytes.
-/
import Derived.Test.YtkchhgpebleioaaDoorDProg4
namespace Go.Proofs.YtkchhgpebleioaaDoor
open Go.RowKit Go.Shelf
attribute [local go_sem] Oper.semAt_some
theorem own_mono {w : World} {base base' : Nat} {e : TypeId} {size n : Nat} {v : Value} {xs : List Value} (h : w.ownsRow base e size v n xs) (hb : base' ≤ base) : w.ownsRow base' e size v n xs :=
  ⟨h.1, h.2.imp id fun ⟨g, cap, cur, e1, hg, r⟩ => ⟨g, cap, cur, e1, Nat.le_trans hb hg, r⟩⟩
/-- append at a slice of one's own, at its operation, inside a fence. -/
theorem stepIn_append_own {F : Fence} {n : Nat} {P : Program} (w : World) {ops : Array Oper} {o : Oper} {a : Act} {K : Act → World → Prop} {Q : Exit → Act → World → Prop} {E : Prop}
    (hg : o.guard = none) (s x : Operand) (t : TypeId) (hop : o.op = Op.call { callee := Callee.builtin Builtin.append, args := #[s, x], argTypes := #[t, t] })
    (base : Nat) (e : TypeId) (i : TypeInfo) (z : Value) (size bytes : Nat) (h1 : P.underlying t = some (.slice e)) (h2 : P.info? e = some i) (h3 : i.zero = some z) (h4 : i.size = size) (h5 : i.bytes = bytes) (h6 : z.cells.size = size) (h7 : 0 < size)
    (v : Value) (k : Nat) (xs : List Value) (hs : a.eval s = v) (hown : w.ownsRow base e size v k xs) (ad : Addr) (m c : Nat) (news : List Value) (hx : a.eval x = .slice (some ad) m c) (hn : news.length = m * size)
    (hc : ∀ j u, news[j]? = some u → w.cell? (ad.add j) = some u) (h1c : ∀ u ∈ news, u.oneCell' = true) (hm : 0 < m) (b1 : k + m ≤ maxLen) (b2 : (k + m) * bytes ≤ 140737488355328) (b3 : base ≤ w.heap.size)
    (hK : ∀ g cap w', w'.ownsRow base e size (.slice (some ⟨g, 0, none⟩) (k + m) cap) (k + m) (xs ++ news) → w.grownBy w' v.ownBlock → K (a.put o.dst (.slice (some ⟨g, 0, none⟩) (k + m) cap)) w') :
    if Region.wanted o (yielded ops a.tmps) = true then Oper.wpIn F n P o a w K Q else E := by
  have hw : Region.wanted o (yielded ops a.tmps) = true := by simp [Region.wanted, hg]
  rw [if_pos hw]
  obtain ⟨v', w', hrun, r1, r2, r3⟩ := run_append_own (P := P) w base t o.type e i z size bytes h1 h2 h3 h4 h5 h6 h7 v k xs hown ad m c news hn hc h1c b1 b2 b3
  obtain ⟨g, cap, rfl, -, -⟩ := r1.form (by omega)
  unfold Oper.wpIn
  refine ⟨?_, ?_⟩
  · simp [Oper.about, hop, resolve, Target.leads, Sem.run_pure]
  · rw [Oper.semAt_plain F _ _ (by rw [hop]; intro c hc'; cases hc')]
    simp [execOp, hop, resolve, invoke, builtin, hs, hx, hrun, Result.andThen]
    exact hK g cap w' r1 r2
/-- The pieces that are not empty. -/
def neL (L : List (List UInt8)) : List (List UInt8) := L.filter fun x => !(x == [])
theorem neL_snoc (pre : List (List UInt8)) (x : List UInt8) : neL (pre ++ [x]) = neL pre ++ if x.isEmpty = true then [] else [x] := by
  unfold neL
  rw [List.filter_append]
  cases x <;> simp
theorem neL_len (L : List (List UInt8)) : (neL L).length ≤ L.length := List.length_filter_le _ _
/-- Memory of segments: its list. -/
structure SM (w w4 W : World) (v : Value) (K : List (List UInt8)) : Prop where
  b0 : CBlk 26 W w.heap.size [v]
  row : W.ownsRow (w4.heap.size + 2) 9 1 v K.length (K.map strW)
  bel : Below w.heap.size w W
  sz : w4.heap.size ≤ W.heap.size
theorem SM.kept {w w4 W W' : World} {v : Value} {K : List (List UInt8)} (h : SM w w4 W v K) {k : Nat} (hg : W.grownBy W' (some k)) (hk : w.heap.size < k) (hk2 : k < w4.heap.size + 2) : SM w w4 W' v K :=
  ⟨h.b0.kept hg (fun e => by injection e; omega), h.row.kept hg (.inr (fun e => by have := (h.row.lt k e).1; omega)), below_grownR h.bel h.bel.size hg (fun r hr => by injection hr; omega), Nat.le_trans h.sz hg.size⟩
theorem SM.below {w w4 W W' : World} {v : Value} {K : List (List UInt8)} (h : SM w w4 W v K) (hb : Below W.heap.size W W') : SM w w4 W' v K :=
  ⟨h.b0.below hb h.b0.lt, own_belowR h.row hb, h.bel.trans (hb.mono h.bel.size), Nat.le_trans h.sz hb.size⟩
set_option maxRecDepth 100000 in
set_option maxHeartbeats 8000000 in
theorem segments_any (p : List UInt8) (hp0 : 0 < p.length) (hl : p.length < 90000) (w : World) :
    Calls Tryd.prog 42 #[.string ⟨p.toArray⟩] w fun e w' => ∃ v, e = .returned v ∧ w'.ownsRow w.heap.size 9 1 v (segsL p).length ((segsL p).map strW) ∧ Below w.heap.size w w' := by
  obtain ⟨i0, hi, hz0, hz1, hz2⟩ := info_parts infoS4
  obtain ⟨W0, hW0⟩ : ∃ W0, w.alloc (.cells #[.slice none 0 0] 26) = W0 := ⟨_, rfl⟩
  have b0 : CBlk 26 W0 w.heap.size [.slice none 0 0] := by rw [← hW0]; exact CBlk.new _ w _
  have hB0 : Below w.heap.size w W0 := by rw [← hW0]; exact (Below.refl _ _).alloc (Nat.le_refl _) _
  have hs0 : W0.heap.size = w.heap.size + 1 := by rw [← hW0]; simp
  have HB0 := Lib.hid b0
  have HB := Lib.hid hB0
  have HS0 := Lib.hid hs0
  have hpd : (p.drop 1).length < 90000 := by rw [List.length_drop]; omega
  have HP : Hid (segsL p = neL (cutS [] (p.drop 1))) := Lib.hid rfl
  have hparts := fun W => parts_any p hp0 (by omega) W
  obtain ⟨X, hX⟩ : ∃ X, p.drop 1 = X := ⟨_, rfl⟩
  rw [hX] at hpd HP hparts
  have HPARTS := Lib.hid hparts
  clear hX hparts hp0 b0 hB0 hs0
  refine (callsIn_wide (n := 5)).1 ?_
  refine callsIn_of_wp_marks Tryd.func42 rfl trivial ?_ rfl
  simp only [Tryd.ntmps42, List.size_toArray, List.length_cons, List.length_nil, Nat.reduceAdd, Nat.reduceSub, Array.replicate_succ, Array.replicate_zero, List.push_toArray, List.append_toArray, List.nil_append, List.cons_append]
  gi_upto_region 2 with fail
  clear hW0
  gi_wp2_with fail
  refine ⟨trivial, ?_⟩
  refine (callsIn_wide.2 (HPARTS.out _)).mono ?_
  rintro e w' ⟨rfl, rfl⟩
  generalize hW4 : ((W0.alloc (.cells #[.string ⟨X.toArray⟩] 9)).alloc (.cells #[.string ⟨#[47]⟩] 9)).alloc (.cells #[.int .i64 0] 3) = W4
  have hgN : W0.grownBy W4 none := by rw [← hW4]; exact gr_alloc (gr_alloc (gr_alloc (World.grownBy.refl _ _) _) _) _
  have hsz4 : W4.heap.size = W0.heap.size + 3 := by rw [← hW4]; simp
  have s0 : CBlk 9 W4 W0.heap.size [.string ⟨X.toArray⟩] := by rw [← hW4]; exact ((CBlk.new _ W0 _).alloc _).alloc _
  have s1 : CBlk 9 W4 (W0.heap.size + 1) [.string ⟨#[47]⟩] := by
    rw [← hW4]
    have := (CBlk.new 9 (W0.alloc (.cells #[.string ⟨X.toArray⟩] 9)) [.string ⟨#[47]⟩]).alloc (.cells #[.int .i64 0] 3)
    simpa using this
  have s2 : CBlk 3 W4 (W0.heap.size + 2) [.int .i64 0] := by
    rw [← hW4]
    have := CBlk.new 3 ((W0.alloc (.cells #[.string ⟨X.toArray⟩] 9)).alloc (.cells #[.string ⟨#[47]⟩] 9)) [.int .i64 0]
    simpa using this
  have hF4 : SM w W4 W4 (.slice none 0 0) [] := ⟨HB0.out.kept hgN (by simp), World.ownsRow_nil _ _ _ _, below_grownR HB.out HB.out.size hgN (fun k e => by cases e), Nat.le_refl _⟩
  have HSZ4 := Lib.hid hsz4
  clear hW4 hgN HB0 HB hsz4
  gi_wp2_with fail
  have hs0 := HS0.out
  have hsz4 := HSZ4.out
  refine rangeS (by omega) W0.heap.size X (by omega) rfl rfl s0 s1 s2
    (fun pre W => ∃ v, SM w W4 W v (neL pre)) (fun _ _ => False)
    ?hIB ?hIL (fun _ _ _ h _ => h) ⟨_, hF4⟩ ?round ?done (fun _ _ _ _ _ h _ => h.elim)
  case hIB => exact fun pre W W' ⟨v, h⟩ hg => ⟨v, h.kept hg (by omega) (by omega)⟩
  case hIL => exact fun pre W W' ⟨v, h⟩ hg => ⟨v, h.kept hg (by omega) (by omega)⟩
  case round =>
    clear s0 s1 s2 hF4
    rintro pre x W ⟨v, hF⟩ hpl hxl hsz
    unfold encX
    gi_wp2
    refine ⟨World.grownBy.refl _ _, ?_⟩
    intro W5 hg5
    have hF5 := hF.kept hg5 (by omega) (by omega)
    have hlen := neL_len pre
    have happ := neL_snoc pre x
    have hsz5 : W.heap.size ≤ W5.heap.size := hg5.size
    obtain ⟨K, hK⟩ : ∃ K, neL pre = K := ⟨_, rfl⟩
    rw [hK] at hF5 happ hlen
    obtain ⟨ov, oc, rfl⟩ := own_slice hF5.row
    obtain ⟨b, hb⟩ : ∃ b, x.isEmpty = b := ⟨_, rfl⟩
    rw [hb] at happ
    have HB2 := Lib.hid hb
    have HAPP := Lib.hid happ
    have HF5 := Lib.hid hF5
    clear hF hK happ hF5 hg5 hb hs0 hsz4
    cases b with
    | true =>
      have hb2 : x.isEmpty = true := HB2.out
      have HK : Hid (neL (pre ++ [x]) = K) := Lib.hid (by rw [HAPP.out]; simp)
      gi_wp2_with fail
      refine ⟨KB.refl _ _, KA.refl _ _, .slice ov K.length oc, ?_⟩
      rw [HK.out]
      exact HF5.out
    | false =>
      have hb2 : x.isEmpty = false := HB2.out
      have HK : Hid (neL (pre ++ [x]) = K ++ [x]) := Lib.hid (by rw [HAPP.out]; simp)
      have HCL : Hid (∀ W, Calls Tryd.prog 61 #[.string ⟨x.toArray⟩] W fun e w' => e = .returned (.string ⟨x.toArray⟩) ∧ Below W.heap.size W w') := Lib.hid (clone_any x (by omega))
      gi_upto_region 5 with fail
      obtain ⟨V, hV⟩ : ∃ V, W5.drew = V := ⟨_, rfl⟩
      have hFV : SM w W4 V (.slice ov K.length oc) K := by rw [← hV]; exact ⟨HF5.out.b0, HF5.out.row, HF5.out.bel.drew, HF5.out.sz⟩
      have hsV : V.heap.size = W5.heap.size := by rw [← hV]; rfl
      have hhV : ∀ q : Nat, V.heap[q]? = W5.heap[q]? := fun q => by rw [← hV]; rfl
      have HFV := Lib.hid hFV
      have HV4 : Hid (W4.heap.size + 2 ≤ V.heap.size) := Lib.hid (by rw [hsV]; omega)
      have HROW : Hid (∀ w2 : World, Below V.heap.size V w2 → (w2.alloc (.cells #[.string ⟨x.toArray⟩] 9)).ownsRow (W4.heap.size + 2) 9 1 (.slice ov K.length oc) K.length (K.map strW)) := Lib.hid fun w2 hb => (own_belowR hFV.row hb).alloc _
      have hs0 := HS0.out
      have hsz4 := HSZ4.out
      have HFIN : Hid (∀ (w2 : World) (g2 cc : Nat) (w6 : World), Below V.heap.size V w2 → (w2.alloc (.cells #[.string ⟨x.toArray⟩] 9)).grownBy w6 (Value.slice ov K.length oc).ownBlock →
          w6.ownsRow (W4.heap.size + 2) 9 1 (.slice (some ⟨g2, 0, none⟩) (K.length + 1) cc) (K.length + 1) (K.map strW ++ [strW x]) →
          w6.cell? ⟨w.heap.size, 0, none⟩ = some (.slice ov K.length oc) ∧ w6.frozen? ⟨w.heap.size, 0, none⟩ = false ∧
          ∀ a, bodyS W4.heap.size W0.heap.size (fun pre W => ∃ v, SM w W4 W v (neL pre)) (fun _ _ => False) (pre ++ [x]) W5 .normal a (w6.setCell ⟨w.heap.size, 0, none⟩ (.slice (some ⟨g2, 0, none⟩) (K.length + 1) cc))) := Lib.hid (by
        intro w2 g2 cc w6 hbw hgrow hown
        have hown2 : ∀ q, q < W4.heap.size + 2 → some q ≠ (Value.slice ov K.length oc).ownBlock := fun q hq e => by have := (HFV.out.row.lt q e.symm).1; omega
        have hFA := (HFV.out.below hbw).b0.alloc (.cells #[.string ⟨x.toArray⟩] 9)
        have hb6 := hFA.kept hgrow (hown2 _ (by omega))
        have hs2 := hbw.size
        have hs6 : W5.heap.size ≤ w6.heap.size := by have := hgrow.size; rw [World.size_alloc] at this; omega
        have hk : ∀ q, q < W4.heap.size + 2 → q ≠ w.heap.size → (w6.setCell ⟨w.heap.size, 0, none⟩ (.slice (some ⟨g2, 0, none⟩) (K.length + 1) cc)).heap[q]? = W5.heap[q]? := fun q hq hne =>
          (Below.heap_setCell _ _ _ _ (fun e => hne e)).trans ((hgrow.block q (by rw [World.size_alloc]; omega) (hown2 q hq)).trans ((Below.heap_alloc _ _ _ (by omega)).trans ((hbw.block q (by omega)).trans (hhV q))))
        refine ⟨hb6.cell1, hb6.free 0, fun a => ⟨⟨by simpa using hs6, hk _ (by omega) (by omega), hk _ (by omega) (by omega)⟩, ⟨by simpa using hs6, hk _ (by omega) (by omega), hk _ (by omega) (by omega), hk _ (by omega) (by omega)⟩, .slice (some ⟨g2, 0, none⟩) (K.length + 1) cc, ?_⟩⟩
        rw [HK.out]
        refine ⟨hb6.set 0 _, ?_, ?_, ?_⟩
        · rw [List.map_append, List.length_append]
          exact ownsRow_setCell_below hown (a := ⟨w.heap.size, 0, none⟩) (by show w.heap.size < _; omega) _
        · have hB2 := (HFV.out.bel.trans (hbw.mono HFV.out.bel.size))
          exact (below_grownR (hB2.alloc hB2.size _) (by rw [World.size_alloc]; have := hB2.size; omega) hgrow (fun r hr => by have := (HFV.out.row.lt r hr).1; omega)).setCell (p := ⟨w.heap.size, 0, none⟩) (Nat.le_refl _) _
        · have := HFV.out.sz
          simp only [World.size_setCell]
          omega)
      have c0 := hFV.b0.cell1
      have f0 := hFV.b0.free 0
      refine wpIn_region_any (by kernel_rfl) ?_
      change wpAnyIn _ _ _ _ _ _ _ _ _ (World.drew _)
      rw [hV]
      clear hV hhV hFV hs0 hsz4
      refine wpAnyIn_ready (rs := [0, 1]) (by kernel_rfl) (by simp) ?_
      refine (AllReadyIn.cons rfl (fun K hK => ?_) (AllReadyIn.cons rfl (fun K hK => ?_) AllReadyIn.nil))
      · go_simp
        refine hK _ _ ?_
        clear hK K
        try simp only [Act.put, List.getElem_toArray, List.getElem_cons_succ, List.getElem_cons_zero, List.setIfInBounds_toArray, List.set_cons_zero, List.set_cons_succ]
        refine wpAnyIn_ready (rs := [1]) (by kernel_rfl) (by simp) ?_
        refine (AllReadyIn.cons rfl (fun K hK => ?_) AllReadyIn.nil)
        go_simp
        refine hK _ _ ?_
        clear hK K
        try simp only [Act.put, List.getElem_toArray, List.getElem_cons_succ, List.getElem_cons_zero, List.setIfInBounds_toArray, List.set_cons_zero, List.set_cons_succ]
        refine wpAnyIn_ready (rs := [2]) (by kernel_rfl) (by simp) ?_
        refine (AllReadyIn.cons rfl (fun K hK => ?_) AllReadyIn.nil)
        go_simp
        refine ⟨trivial, (CallsIn.inRound _ (callsIn_wide.2 (HCL.out _))).mono ?_⟩
        rintro e w2 ⟨rfl, hbw⟩
        have c1 := (HFV.out.b0.below hbw HFV.out.b0.lt).cell1
        have f1 := (HFV.out.b0.below hbw HFV.out.b0.lt).free 0
        have c2 := ((HFV.out.b0.below hbw HFV.out.b0.lt).alloc (.cells #[.string ⟨x.toArray⟩] 9)).cell1
        have HBW := Lib.hid hbw
        clear hbw
        dsimp only
        refine hK _ _ ?_
        clear hK K
        try simp only [Act.put, List.getElem_toArray, List.getElem_cons_succ, List.getElem_cons_zero, List.setIfInBounds_toArray, List.set_cons_zero, List.set_cons_succ]
        refine wpAnyIn_ready (rs := [3]) (by kernel_rfl) (by simp) ?_
        refine (AllReadyIn.cons rfl (fun K hK => ?_) AllReadyIn.nil)
        go_simp
        refine hK _ _ ?_
        clear hK K
        try simp only [Act.put, List.getElem_toArray, List.getElem_cons_succ, List.getElem_cons_zero, List.setIfInBounds_toArray, List.set_cons_zero, List.set_cons_succ]
        refine wpAnyIn_ready (rs := [4]) (by kernel_rfl) (by simp) ?_
        refine (AllReadyIn.cons rfl (fun K hK => ?_) AllReadyIn.nil)
        refine stepIn_append_own _ rfl _ _ 26 rfl (W4.heap.size + 2) 9 i0 (.string ⟨#[]⟩) 1 16 Tryd.underlying26 hi hz0 hz1 hz2 rfl (by decide) _ _ _ rfl (HROW.out w2 HBW.out) ⟨w2.heap.size, 0, none⟩ 1 1 [strW x] rfl rfl (cell_one_new _ _ _) (by simp [Value.oneCell', strW]) (by decide) (by unfold maxLen; omega) (by omega) (by rw [World.size_alloc]; have := HBW.out.size; have := HV4.out; omega) ?_
        intro g2 cc w6 hown hgrow
        have HFI := Lib.hid (HFIN.out w2 g2 cc w6 HBW.out hgrow hown)
        have k3 := HFI.out.1
        have k4 := HFI.out.2.1
        clear hown hgrow
        refine hK _ _ ?_
        clear hK K
        try simp only [Act.put, List.getElem_toArray, List.getElem_cons_succ, List.getElem_cons_zero, List.setIfInBounds_toArray, List.set_cons_zero, List.set_cons_succ]
        refine wpAnyIn_ready (rs := [5]) (by kernel_rfl) (by simp) ?_
        refine (AllReadyIn.cons rfl (fun K hK => ?_) AllReadyIn.nil)
        go_simp
        refine hK _ _ ?_
        clear hK K
        try simp only [Act.put, List.getElem_toArray, List.getElem_cons_succ, List.getElem_cons_zero, List.setIfInBounds_toArray, List.set_cons_zero, List.set_cons_succ]
        refine wpAnyIn_done (by kernel_rfl) ?_ _
        gi_wp2
        exact HFI.out.2.2 _
      · go_simp
        refine hK _ _ ?_
        clear hK K
        try simp only [Act.put, List.getElem_toArray, List.getElem_cons_succ, List.getElem_cons_zero, List.setIfInBounds_toArray, List.set_cons_zero, List.set_cons_succ]
        refine wpAnyIn_ready (rs := [0, 2]) (by kernel_rfl) (by simp) ?_
        refine (AllReadyIn.cons rfl (fun K hK => ?_) (AllReadyIn.cons rfl (fun K hK => ?_) AllReadyIn.nil))
        · go_simp
          refine hK _ _ ?_
          clear hK K
          try simp only [Act.put, List.getElem_toArray, List.getElem_cons_succ, List.getElem_cons_zero, List.setIfInBounds_toArray, List.set_cons_zero, List.set_cons_succ]
          refine wpAnyIn_ready (rs := [2]) (by kernel_rfl) (by simp) ?_
          refine (AllReadyIn.cons rfl (fun K hK => ?_) AllReadyIn.nil)
          go_simp
          refine ⟨trivial, (CallsIn.inRound _ (callsIn_wide.2 (HCL.out _))).mono ?_⟩
          rintro e w2 ⟨rfl, hbw⟩
          have c1 := (HFV.out.b0.below hbw HFV.out.b0.lt).cell1
          have f1 := (HFV.out.b0.below hbw HFV.out.b0.lt).free 0
          have c2 := ((HFV.out.b0.below hbw HFV.out.b0.lt).alloc (.cells #[.string ⟨x.toArray⟩] 9)).cell1
          have HBW := Lib.hid hbw
          clear hbw
          dsimp only
          refine hK _ _ ?_
          clear hK K
          try simp only [Act.put, List.getElem_toArray, List.getElem_cons_succ, List.getElem_cons_zero, List.setIfInBounds_toArray, List.set_cons_zero, List.set_cons_succ]
          refine wpAnyIn_ready (rs := [3]) (by kernel_rfl) (by simp) ?_
          refine (AllReadyIn.cons rfl (fun K hK => ?_) AllReadyIn.nil)
          go_simp
          refine hK _ _ ?_
          clear hK K
          try simp only [Act.put, List.getElem_toArray, List.getElem_cons_succ, List.getElem_cons_zero, List.setIfInBounds_toArray, List.set_cons_zero, List.set_cons_succ]
          refine wpAnyIn_ready (rs := [4]) (by kernel_rfl) (by simp) ?_
          refine (AllReadyIn.cons rfl (fun K hK => ?_) AllReadyIn.nil)
          refine stepIn_append_own _ rfl _ _ 26 rfl (W4.heap.size + 2) 9 i0 (.string ⟨#[]⟩) 1 16 Tryd.underlying26 hi hz0 hz1 hz2 rfl (by decide) _ _ _ rfl (HROW.out w2 HBW.out) ⟨w2.heap.size, 0, none⟩ 1 1 [strW x] rfl rfl (cell_one_new _ _ _) (by simp [Value.oneCell', strW]) (by decide) (by unfold maxLen; omega) (by omega) (by rw [World.size_alloc]; have := HBW.out.size; have := HV4.out; omega) ?_
          intro g2 cc w6 hown hgrow
          have HFI := Lib.hid (HFIN.out w2 g2 cc w6 HBW.out hgrow hown)
          have k3 := HFI.out.1
          have k4 := HFI.out.2.1
          clear hown hgrow
          refine hK _ _ ?_
          clear hK K
          try simp only [Act.put, List.getElem_toArray, List.getElem_cons_succ, List.getElem_cons_zero, List.setIfInBounds_toArray, List.set_cons_zero, List.set_cons_succ]
          refine wpAnyIn_ready (rs := [5]) (by kernel_rfl) (by simp) ?_
          refine (AllReadyIn.cons rfl (fun K hK => ?_) AllReadyIn.nil)
          go_simp
          refine hK _ _ ?_
          clear hK K
          try simp only [Act.put, List.getElem_toArray, List.getElem_cons_succ, List.getElem_cons_zero, List.setIfInBounds_toArray, List.set_cons_zero, List.set_cons_succ]
          refine wpAnyIn_done (by kernel_rfl) ?_ _
          gi_wp2
          exact HFI.out.2.2 _
        · go_simp
          refine ⟨trivial, (CallsIn.inRound _ (callsIn_wide.2 (HCL.out _))).mono ?_⟩
          rintro e w2 ⟨rfl, hbw⟩
          have c1 := (HFV.out.b0.below hbw HFV.out.b0.lt).cell1
          have f1 := (HFV.out.b0.below hbw HFV.out.b0.lt).free 0
          have c2 := ((HFV.out.b0.below hbw HFV.out.b0.lt).alloc (.cells #[.string ⟨x.toArray⟩] 9)).cell1
          have HBW := Lib.hid hbw
          clear hbw
          dsimp only
          refine hK _ _ ?_
          clear hK K
          try simp only [Act.put, List.getElem_toArray, List.getElem_cons_succ, List.getElem_cons_zero, List.setIfInBounds_toArray, List.set_cons_zero, List.set_cons_succ]
          refine wpAnyIn_ready (rs := [0, 3]) (by kernel_rfl) (by simp) ?_
          refine (AllReadyIn.cons rfl (fun K hK => ?_) (AllReadyIn.cons rfl (fun K hK => ?_) AllReadyIn.nil))
          · go_simp
            refine hK _ _ ?_
            clear hK K
            try simp only [Act.put, List.getElem_toArray, List.getElem_cons_succ, List.getElem_cons_zero, List.setIfInBounds_toArray, List.set_cons_zero, List.set_cons_succ]
            refine wpAnyIn_ready (rs := [3]) (by kernel_rfl) (by simp) ?_
            refine (AllReadyIn.cons rfl (fun K hK => ?_) AllReadyIn.nil)
            go_simp
            refine hK _ _ ?_
            clear hK K
            try simp only [Act.put, List.getElem_toArray, List.getElem_cons_succ, List.getElem_cons_zero, List.setIfInBounds_toArray, List.set_cons_zero, List.set_cons_succ]
            refine wpAnyIn_ready (rs := [4]) (by kernel_rfl) (by simp) ?_
            refine (AllReadyIn.cons rfl (fun K hK => ?_) AllReadyIn.nil)
            refine stepIn_append_own _ rfl _ _ 26 rfl (W4.heap.size + 2) 9 i0 (.string ⟨#[]⟩) 1 16 Tryd.underlying26 hi hz0 hz1 hz2 rfl (by decide) _ _ _ rfl (HROW.out w2 HBW.out) ⟨w2.heap.size, 0, none⟩ 1 1 [strW x] rfl rfl (cell_one_new _ _ _) (by simp [Value.oneCell', strW]) (by decide) (by unfold maxLen; omega) (by omega) (by rw [World.size_alloc]; have := HBW.out.size; have := HV4.out; omega) ?_
            intro g2 cc w6 hown hgrow
            have HFI := Lib.hid (HFIN.out w2 g2 cc w6 HBW.out hgrow hown)
            have k3 := HFI.out.1
            have k4 := HFI.out.2.1
            clear hown hgrow
            refine hK _ _ ?_
            clear hK K
            try simp only [Act.put, List.getElem_toArray, List.getElem_cons_succ, List.getElem_cons_zero, List.setIfInBounds_toArray, List.set_cons_zero, List.set_cons_succ]
            refine wpAnyIn_ready (rs := [5]) (by kernel_rfl) (by simp) ?_
            refine (AllReadyIn.cons rfl (fun K hK => ?_) AllReadyIn.nil)
            go_simp
            refine hK _ _ ?_
            clear hK K
            try simp only [Act.put, List.getElem_toArray, List.getElem_cons_succ, List.getElem_cons_zero, List.setIfInBounds_toArray, List.set_cons_zero, List.set_cons_succ]
            refine wpAnyIn_done (by kernel_rfl) ?_ _
            gi_wp2
            exact HFI.out.2.2 _
          · go_simp
            refine hK _ _ ?_
            clear hK K
            try simp only [Act.put, List.getElem_toArray, List.getElem_cons_succ, List.getElem_cons_zero, List.setIfInBounds_toArray, List.set_cons_zero, List.set_cons_succ]
            refine wpAnyIn_ready (rs := [0]) (by kernel_rfl) (by simp) ?_
            refine (AllReadyIn.cons rfl (fun K hK => ?_) AllReadyIn.nil)
            go_simp
            refine hK _ _ ?_
            clear hK K
            try simp only [Act.put, List.getElem_toArray, List.getElem_cons_succ, List.getElem_cons_zero, List.setIfInBounds_toArray, List.set_cons_zero, List.set_cons_succ]
            refine wpAnyIn_ready (rs := [4]) (by kernel_rfl) (by simp) ?_
            refine (AllReadyIn.cons rfl (fun K hK => ?_) AllReadyIn.nil)
            refine stepIn_append_own _ rfl _ _ 26 rfl (W4.heap.size + 2) 9 i0 (.string ⟨#[]⟩) 1 16 Tryd.underlying26 hi hz0 hz1 hz2 rfl (by decide) _ _ _ rfl (HROW.out w2 HBW.out) ⟨w2.heap.size, 0, none⟩ 1 1 [strW x] rfl rfl (cell_one_new _ _ _) (by simp [Value.oneCell', strW]) (by decide) (by unfold maxLen; omega) (by omega) (by rw [World.size_alloc]; have := HBW.out.size; have := HV4.out; omega) ?_
            intro g2 cc w6 hown hgrow
            have HFI := Lib.hid (HFIN.out w2 g2 cc w6 HBW.out hgrow hown)
            have k3 := HFI.out.1
            have k4 := HFI.out.2.1
            clear hown hgrow
            refine hK _ _ ?_
            clear hK K
            try simp only [Act.put, List.getElem_toArray, List.getElem_cons_succ, List.getElem_cons_zero, List.setIfInBounds_toArray, List.set_cons_zero, List.set_cons_succ]
            refine wpAnyIn_ready (rs := [5]) (by kernel_rfl) (by simp) ?_
            refine (AllReadyIn.cons rfl (fun K hK => ?_) AllReadyIn.nil)
            go_simp
            refine hK _ _ ?_
            clear hK K
            try simp only [Act.put, List.getElem_toArray, List.getElem_cons_succ, List.getElem_cons_zero, List.setIfInBounds_toArray, List.set_cons_zero, List.set_cons_succ]
            refine wpAnyIn_done (by kernel_rfl) ?_ _
            gi_wp2
            exact HFI.out.2.2 _
  case done =>
    clear s0 s1 s2 hF4
    rintro W' ⟨v, hF⟩ hD
    have hF : SM w W4 W' v (segsL p) := by rw [HP.out]; exact hF
    have hSL := segs_len p
    obtain ⟨ov, oc, rfl⟩ := own_slice hF.row
    have c0 := hF.b0.cell1
    have HF := Lib.hid hF
    have HD := Lib.hid hD
    clear hF hD hs0 hsz4
    gi_wp2_with fail
    have hs0 := HS0.out
    have hsz4 := HSZ4.out
    have hgp := grownBy_putObj' W' W4.heap.size (.deferred none)
    refine ⟨by simp, .inl ⟨_, _, rfl, run_takeDeferred HD.out, ?_⟩⟩
    have hF6 := HF.out.kept hgp (by omega) (by omega)
    exact ⟨_, results_tmp rfl _ _ _, _, rfl, own_mono hF6.row (by omega), hF6.bel⟩
end Go.Proofs.YtkchhgpebleioaaDoor
