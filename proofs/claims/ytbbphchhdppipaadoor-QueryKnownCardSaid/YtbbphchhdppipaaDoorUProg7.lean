/-
  The program's Pairs, for texts shorter than 90000 bytes.
-/
import Derived.Test.YtbbphchhdppipaaDoorUProg6
import Derived.Test.YtbbphchhdppipaaDoorURef4
namespace Go.Proofs.YtbbphchhdppipaaDoor
open Go.RowKit Go.Shelf
attribute [local go_sem] Oper.semAt_some
/-- Memory of Pairs: its list, in a block B ahead of N, with its row behind N + 8. -/
structure PM (w : World) (B N : Nat) (W : World) (v : Value) (K : List Pr) : Prop where
  b0 : CBlk 31 W B [v]
  row : W.ownsRow (N + 8) 40 3 v K.length (prsC K)
  bel : Below w.heap.size w W
  sz : N ≤ W.heap.size
theorem PM.kept {w : World} {B N : Nat} {W W' : World} {v : Value} {K : List Pr} (h : PM w B N W v K) {k : Nat} (hg : W.grownBy W' (some k)) (hB : B < N) (hw : w.heap.size ≤ B) (hk : N ≤ k) (hk2 : k < N + 8) : PM w B N W' v K :=
  ⟨h.b0.kept hg (fun e => by injection e; omega), h.row.kept hg (.inr (fun e => by have := (h.row.lt k e).1; omega)), below_grownR h.bel h.bel.size hg (fun r hr => by injection hr; omega), Nat.le_trans h.sz hg.size⟩
theorem PM.keptN {w : World} {B N : Nat} {W W' : World} {v : Value} {K : List Pr} (h : PM w B N W v K) (hg : W.grownBy W' none) : PM w B N W' v K :=
  ⟨h.b0.kept hg (by simp), h.row.kept hg (Decidable.em _), below_grownR h.bel h.bel.size hg (fun r hr => by cases hr), Nat.le_trans h.sz hg.size⟩
theorem PM.below {w : World} {B N : Nat} {W W' : World} {v : Value} {K : List Pr} (h : PM w B N W v K) (hb : Below W.heap.size W W') : PM w B N W' v K :=
  ⟨h.b0.below hb h.b0.lt, own_belowR h.row hb, h.bel.trans (hb.mono h.bel.size), Nat.le_trans h.sz hb.size⟩
theorem map_snoc (pre : List (List UInt8)) (x : List UInt8) : (pre ++ [x]).map prOf = pre.map prOf ++ [prOf x] := by simp
set_option maxRecDepth 100000 in
set_option maxHeartbeats 8000000 in
theorem pairs_any (q : List UInt8) (hl : q.length < 90000) (w : World) :
    Calls Tryd.prog 19 #[.string ⟨q.toArray⟩] w fun e w' => PrsPost w.heap.size (prsR q) e w' ∧ Below w.heap.size w w' := by
  have HCK : Hid (∀ W, Calls Tryd.prog 15 #[.string ⟨q.toArray⟩] W fun e w' => e = .returned (.int .i64 (chkN q : Nat)) ∧ Below W.heap.size W w') := Lib.hid fun W => check_q q (by omega) W
  by_cases hc : chkN q = 0
  · have HR : Hid (prsR q = .inr (pairsL q)) := Lib.hid (by unfold prsR; rw [if_pos hc])
    have HC := Lib.hid hc
    have hq128 := chk_len hc
    have HCLO : Hid (∀ W, Calls Tryd.prog 50 #[.string ⟨q.toArray⟩] W fun e w' => e = .returned (.string ⟨q.toArray⟩) ∧ Below W.heap.size W w') := Lib.hid fun W => clone_any _ W (by show q.length ≤ _; omega)
    have hplen := pairs_len q
    obtain ⟨i0, hi, hz0, hz1, hz2⟩ := info_parts infoPr
    rw [HR.out]
    clear hc HR
    refine (callsIn_wide (n := 8)).1 ?_
    refine callsIn_of_wp_marks Tryd.func19 rfl trivial ?_ rfl
    simp only [Tryd.ntmps19, List.size_toArray, List.length_cons, List.length_nil, Nat.reduceAdd, Nat.reduceSub, Array.replicate_succ, Array.replicate_zero, List.push_toArray, List.append_toArray, List.nil_append, List.cons_append]
    gi_wp2_with fail
    refine ⟨trivial, (callsIn_wide.2 (HCK.out _)).mono ?_⟩
    rintro e w1 ⟨rfl, hb1⟩
    rw [HC.out]
    gi_wp2_with fail
    have b1 : CBlk 31 (w1.alloc (.cells #[.slice none 0 0] 31)) w1.heap.size [.slice none 0 0] := CBlk.new _ w1 _
    have hB1 := hb1.alloc hb1.size (.cells #[.slice none 0 0] 31)
    have hsz1 := hb1.size
    obtain ⟨B, hBe⟩ : ∃ B, w1.heap.size = B := ⟨_, rfl⟩
    rw [hBe] at b1 hsz1
    try rw [hBe]
    obtain ⟨w2, hw2⟩ : ∃ w2, w1.alloc (.cells #[.slice none 0 0] 31) = w2 := ⟨_, rfl⟩
    rw [hw2] at b1 hB1
    try rw [hw2]
    clear hw2 hBe hb1
    refine ⟨trivial, (callsIn_wide.2 (HCLO.out _)).mono ?_⟩
    rintro e w3 ⟨rfl, hb3⟩
    have b3 := b1.below hb3 b1.lt
    have hB3 := hB1.trans (hb3.mono hB1.size)
    clear hb3 b1 hB1
    gi_wp2_with fail
    refine ⟨trivial, (callsIn_wide.2 (pieces_any q _)).mono ?_⟩
    rintro e w' ⟨rfl, rfl⟩
    have s4 : CBlk 9 (w3.alloc (.cells #[.string ⟨q.toArray⟩] 9)) w3.heap.size [.string ⟨q.toArray⟩] := CBlk.new _ w3 _
    have b4 := b3.alloc (.cells #[.string ⟨q.toArray⟩] 9)
    have hB4 := hB3.alloc hB3.size (.cells #[.string ⟨q.toArray⟩] 9)
    obtain ⟨w4, hw4⟩ : ∃ w4, w3.alloc (.cells #[.string ⟨q.toArray⟩] 9) = w4 := ⟨_, rfl⟩
    rw [hw4] at s4 b4 hB4
    try rw [hw4]
    obtain ⟨N, hN⟩ : ∃ N, w4.heap.size = N := ⟨_, rfl⟩
    have hBN : B < N := by rw [← hN]; exact b4.lt
    have hF4 : PM w B N w4 (.slice none 0 0) [] := ⟨b4, World.ownsRow_nil _ _ _ _, hB4, by omega⟩
    have HN := Lib.hid hN
    clear hw4 b3 hB3 b4 hB4 hN
    gi_wp2_with fail
    refine rangeP (by omega) w3.heap.size q hl rfl rfl s4 (fun pre W => ∃ v, PM w B N W v (pre.map prOf)) ?hI ?hIN ⟨_, hF4⟩ ?round ?done
    case hI => exact fun pre X X' k ⟨v, h⟩ hg h1 h2 => ⟨v, h.kept hg hBN hsz1 (by have := HN.out; omega) (by have := HN.out; omega)⟩
    case hIN => exact fun pre X X' ⟨v, h⟩ hg => ⟨v, h.keptN hg⟩
    case round =>
      rw [HN.out]
      clear s4 hF4
      rintro pre x W ⟨v, hF⟩ hpl hxl hsz
      unfold encX
      gi_wp2
      refine ⟨World.grownBy.refl _ _, ?_⟩
      intro W5 hg5
      have hF5 := hF.kept hg5 hBN hsz1 (by omega) (by omega)
      have hsz5 : W.heap.size ≤ W5.heap.size := hg5.size
      have happ := map_snoc pre x
      have hlen : (pre.map prOf).length ≤ q.length + 1 := by rw [List.length_map]; exact hpl
      obtain ⟨K, hK⟩ : ∃ K, pre.map prOf = K := ⟨_, rfl⟩
      rw [hK] at hF5 happ hlen
      obtain ⟨⟨n, u, s⟩, hp⟩ : ∃ p, prOf x = p := ⟨_, rfl⟩
      rw [hp] at happ
      have HCL : Hid (∀ W, Calls Tryd.prog 51 #[.string ⟨x.toArray⟩] W fun e w' => e = .returned (.agg #[.string ⟨n.toArray⟩, .string ⟨u.toArray⟩, .bool s]) ∧ Below W.heap.size W w') := Lib.hid fun W => by
        have h := pairOf_any x (by omega) W
        rw [hp] at h
        exact h
      obtain ⟨ov, oc, rfl⟩ := own_slice hF5.row
      have HAPP := Lib.hid happ
      have HF5 := Lib.hid hF5
      clear hF hK happ hF5 hg5 hp
      gi_upto_region 7 with fail
      obtain ⟨V, hV⟩ : ∃ V, W5.drew = V := ⟨_, rfl⟩
      have hFV : PM w B N V (.slice ov K.length oc) K := by rw [← hV]; exact ⟨HF5.out.b0, HF5.out.row, HF5.out.bel.drew, HF5.out.sz⟩
      have hsV : V.heap.size = W5.heap.size := by rw [← hV]; rfl
      have hhV : ∀ q : Nat, V.heap[q]? = W5.heap[q]? := fun q => by rw [← hV]; rfl
      have HFV := Lib.hid hFV
      have HV4 : Hid (N + 8 ≤ V.heap.size) := Lib.hid (by rw [hsV]; omega)
      have HROW : Hid (∀ w2 : World, Below V.heap.size V w2 → (w2.alloc (.cells #[.string ⟨n.toArray⟩, .string ⟨u.toArray⟩, .bool s] 40)).ownsRow (N + 8) 40 3 (.slice ov K.length oc) K.length (prsC K)) := Lib.hid fun w2 hb => (own_belowR hFV.row hb).alloc _
      have HNEWS : Hid (∀ (w2 : World) j v, (prsC [⟨n, u, s⟩])[j]? = some v → (w2.alloc (.cells #[.string ⟨n.toArray⟩, .string ⟨u.toArray⟩, .bool s] 40)).cell? ((⟨w2.heap.size, 0, none⟩ : Addr).add j) = some v) := Lib.hid fun w2 j v hv => (new_pair w2 ⟨n, u, s⟩ _ j).trans hv
      have HFIN : Hid (∀ (w2 : World) (g2 cc : Nat) (w6 : World), Below V.heap.size V w2 → (w2.alloc (.cells #[.string ⟨n.toArray⟩, .string ⟨u.toArray⟩, .bool s] 40)).grownBy w6 (Value.slice ov K.length oc).ownBlock →
          w6.ownsRow (N + 8) 40 3 (.slice (some ⟨g2, 0, none⟩) (K.length + 1) cc) (K.length + 1) (prsC K ++ prsC [⟨n, u, s⟩]) →
          w6.cell? ⟨B, 0, none⟩ = some (.slice ov K.length oc) ∧ w6.frozen? ⟨B, 0, none⟩ = false ∧
          ∀ a, bodyP N (fun pre W => ∃ v, PM w B N W v (pre.map prOf)) (pre ++ [x]) W5 .normal a (w6.setCell ⟨B, 0, none⟩ (.slice (some ⟨g2, 0, none⟩) (K.length + 1) cc))) := Lib.hid (by
        intro w2 g2 cc w6 hbw hgrow hown
        have hown2 : ∀ q, q < N + 8 → some q ≠ (Value.slice ov K.length oc).ownBlock := fun q hq e => by have := (HFV.out.row.lt q e.symm).1; omega
        have hFA := (HFV.out.below hbw).b0.alloc (.cells #[.string ⟨n.toArray⟩, .string ⟨u.toArray⟩, .bool s] 40)
        have hb6 := hFA.kept hgrow (hown2 _ (by omega))
        have hs2 := hbw.size
        have hs6 : W5.heap.size ≤ w6.heap.size := by have := hgrow.size; rw [World.size_alloc] at this; omega
        have hk : ∀ q, q < N + 8 → q < W5.heap.size → q ≠ B → (w6.setCell ⟨B, 0, none⟩ (.slice (some ⟨g2, 0, none⟩) (K.length + 1) cc)).heap[q]? = W5.heap[q]? := fun q hq hq2 hne =>
          (Below.heap_setCell _ _ _ _ (fun e => hne e)).trans ((hgrow.block q (by rw [World.size_alloc]; omega) (hown2 q hq)).trans ((Below.heap_alloc _ _ _ (by omega)).trans ((hbw.block q (by omega)).trans (hhV q))))
        refine ⟨hb6.cell1, hb6.free 0, fun a => ⟨⟨by simpa using hs6, hk _ (by omega) (by omega) (by omega), hk _ (by omega) (by omega) (by omega)⟩, ⟨by simpa using hs6, fun k h1 h2 h3 => hk _ (by omega) h3 (by omega)⟩, .slice (some ⟨g2, 0, none⟩) (K.length + 1) cc, ?_⟩⟩
        rw [HAPP.out]
        refine ⟨hb6.set 0 _, ?_, ?_, ?_⟩
        · rw [prsC_append, List.length_append]
          exact ownsRow_setCell_below hown (a := ⟨B, 0, none⟩) (by show B < _; omega) _
        · have hB2 := (HFV.out.bel.trans (hbw.mono HFV.out.bel.size))
          exact (below_grownR (hB2.alloc hB2.size _) (by rw [World.size_alloc]; have := hB2.size; omega) hgrow (fun r hr => by have := (HFV.out.row.lt r hr).1; omega)).setCell (p := ⟨B, 0, none⟩) hsz1 _
        · have := HFV.out.sz
          simp only [World.size_setCell]
          omega)
      have c0 := hFV.b0.cell1
      have f0 := hFV.b0.free 0
      refine wpIn_region_any (by kernel_rfl) ?_
      change wpAnyIn _ _ _ _ _ _ _ _ _ (World.drew _)
      rw [hV]
      clear hV hhV hFV hsV
      refine wpAnyIn_ready (rs := [0, 1]) (by kernel_rfl) (by simp) ?_
      refine (AllReadyIn.cons rfl (fun K hK => ?_) (AllReadyIn.cons rfl (fun K hK => ?_) AllReadyIn.nil))
      · go_simp
        refine hK _ _ ?_
        clear hK K
        try simp only [Act.put, List.getElem_toArray, List.getElem_cons_succ, List.getElem_cons_zero, List.setIfInBounds_toArray, List.set_cons_zero, List.set_cons_succ]
        refine wpAnyIn_ready (rs := [1]) (by kernel_rfl) (by simp) ?_
        refine (AllReadyIn.cons rfl (fun K hK => ?_) AllReadyIn.nil)
        go_simp
        refine hK _ _ ?_
        clear hK K
        try simp only [Act.put, List.getElem_toArray, List.getElem_cons_succ, List.getElem_cons_zero, List.setIfInBounds_toArray, List.set_cons_zero, List.set_cons_succ]
        refine wpAnyIn_ready (rs := [2]) (by kernel_rfl) (by simp) ?_
        refine (AllReadyIn.cons rfl (fun K hK => ?_) AllReadyIn.nil)
        go_simp
        refine ⟨trivial, (CallsIn.inRound _ (callsIn_wide.2 (HCL.out _))).mono ?_⟩
        rintro e w2 ⟨rfl, hbw⟩
        have c1 := (HFV.out.b0.below hbw HFV.out.b0.lt).cell1
        have f1 := (HFV.out.b0.below hbw HFV.out.b0.lt).free 0
        have c2 := ((HFV.out.b0.below hbw HFV.out.b0.lt).alloc (.cells #[.string ⟨n.toArray⟩, .string ⟨u.toArray⟩, .bool s] 40)).cell1
        have HBW := Lib.hid hbw
        clear hbw
        dsimp only
        refine hK _ _ ?_
        clear hK K
        try simp only [Act.put, List.getElem_toArray, List.getElem_cons_succ, List.getElem_cons_zero, List.setIfInBounds_toArray, List.set_cons_zero, List.set_cons_succ]
        refine wpAnyIn_ready (rs := [3]) (by kernel_rfl) (by simp) ?_
        refine (AllReadyIn.cons rfl (fun K hK => ?_) AllReadyIn.nil)
        go_simp
        refine hK _ _ ?_
        clear hK K
        try simp only [Act.put, List.getElem_toArray, List.getElem_cons_succ, List.getElem_cons_zero, List.setIfInBounds_toArray, List.set_cons_zero, List.set_cons_succ]
        refine wpAnyIn_ready (rs := [4]) (by kernel_rfl) (by simp) ?_
        refine (AllReadyIn.cons rfl (fun K hK => ?_) AllReadyIn.nil)
        refine stepIn_append_own _ rfl _ _ 31 rfl (N + 8) 40 i0 (.agg #[.string ⟨#[]⟩, .string ⟨#[]⟩, .bool false]) 3 40 Tryd.underlying31 hi hz0 hz1 hz2 rfl (by decide) _ _ _ rfl (HROW.out w2 HBW.out) ⟨w2.heap.size, 0, none⟩ 1 1 (prsC [⟨n, u, s⟩]) rfl rfl (HNEWS.out w2) (prsC_one _) (by decide) (by unfold maxLen; omega) (by omega) (by rw [World.size_alloc]; have := HBW.out.size; have := HV4.out; omega) ?_
        intro g2 cc w6 hown hgrow
        have HFI := Lib.hid (HFIN.out w2 g2 cc w6 HBW.out hgrow hown)
        have k3 := HFI.out.1
        have k4 := HFI.out.2.1
        clear hown hgrow
        refine hK _ _ ?_
        clear hK K
        try simp only [Act.put, List.getElem_toArray, List.getElem_cons_succ, List.getElem_cons_zero, List.setIfInBounds_toArray, List.set_cons_zero, List.set_cons_succ]
        refine wpAnyIn_ready (rs := [5]) (by kernel_rfl) (by simp) ?_
        refine (AllReadyIn.cons rfl (fun K hK => ?_) AllReadyIn.nil)
        go_simp
        refine hK _ _ ?_
        clear hK K
        try simp only [Act.put, List.getElem_toArray, List.getElem_cons_succ, List.getElem_cons_zero, List.setIfInBounds_toArray, List.set_cons_zero, List.set_cons_succ]
        refine wpAnyIn_done (by kernel_rfl) ?_ _
        gi_wp2
        exact HFI.out.2.2 _
      · go_simp
        refine hK _ _ ?_
        clear hK K
        try simp only [Act.put, List.getElem_toArray, List.getElem_cons_succ, List.getElem_cons_zero, List.setIfInBounds_toArray, List.set_cons_zero, List.set_cons_succ]
        refine wpAnyIn_ready (rs := [0, 2]) (by kernel_rfl) (by simp) ?_
        refine (AllReadyIn.cons rfl (fun K hK => ?_) (AllReadyIn.cons rfl (fun K hK => ?_) AllReadyIn.nil))
        · go_simp
          refine hK _ _ ?_
          clear hK K
          try simp only [Act.put, List.getElem_toArray, List.getElem_cons_succ, List.getElem_cons_zero, List.setIfInBounds_toArray, List.set_cons_zero, List.set_cons_succ]
          refine wpAnyIn_ready (rs := [2]) (by kernel_rfl) (by simp) ?_
          refine (AllReadyIn.cons rfl (fun K hK => ?_) AllReadyIn.nil)
          go_simp
          refine ⟨trivial, (CallsIn.inRound _ (callsIn_wide.2 (HCL.out _))).mono ?_⟩
          rintro e w2 ⟨rfl, hbw⟩
          have c1 := (HFV.out.b0.below hbw HFV.out.b0.lt).cell1
          have f1 := (HFV.out.b0.below hbw HFV.out.b0.lt).free 0
          have c2 := ((HFV.out.b0.below hbw HFV.out.b0.lt).alloc (.cells #[.string ⟨n.toArray⟩, .string ⟨u.toArray⟩, .bool s] 40)).cell1
          have HBW := Lib.hid hbw
          clear hbw
          dsimp only
          refine hK _ _ ?_
          clear hK K
          try simp only [Act.put, List.getElem_toArray, List.getElem_cons_succ, List.getElem_cons_zero, List.setIfInBounds_toArray, List.set_cons_zero, List.set_cons_succ]
          refine wpAnyIn_ready (rs := [3]) (by kernel_rfl) (by simp) ?_
          refine (AllReadyIn.cons rfl (fun K hK => ?_) AllReadyIn.nil)
          go_simp
          refine hK _ _ ?_
          clear hK K
          try simp only [Act.put, List.getElem_toArray, List.getElem_cons_succ, List.getElem_cons_zero, List.setIfInBounds_toArray, List.set_cons_zero, List.set_cons_succ]
          refine wpAnyIn_ready (rs := [4]) (by kernel_rfl) (by simp) ?_
          refine (AllReadyIn.cons rfl (fun K hK => ?_) AllReadyIn.nil)
          refine stepIn_append_own _ rfl _ _ 31 rfl (N + 8) 40 i0 (.agg #[.string ⟨#[]⟩, .string ⟨#[]⟩, .bool false]) 3 40 Tryd.underlying31 hi hz0 hz1 hz2 rfl (by decide) _ _ _ rfl (HROW.out w2 HBW.out) ⟨w2.heap.size, 0, none⟩ 1 1 (prsC [⟨n, u, s⟩]) rfl rfl (HNEWS.out w2) (prsC_one _) (by decide) (by unfold maxLen; omega) (by omega) (by rw [World.size_alloc]; have := HBW.out.size; have := HV4.out; omega) ?_
          intro g2 cc w6 hown hgrow
          have HFI := Lib.hid (HFIN.out w2 g2 cc w6 HBW.out hgrow hown)
          have k3 := HFI.out.1
          have k4 := HFI.out.2.1
          clear hown hgrow
          refine hK _ _ ?_
          clear hK K
          try simp only [Act.put, List.getElem_toArray, List.getElem_cons_succ, List.getElem_cons_zero, List.setIfInBounds_toArray, List.set_cons_zero, List.set_cons_succ]
          refine wpAnyIn_ready (rs := [5]) (by kernel_rfl) (by simp) ?_
          refine (AllReadyIn.cons rfl (fun K hK => ?_) AllReadyIn.nil)
          go_simp
          refine hK _ _ ?_
          clear hK K
          try simp only [Act.put, List.getElem_toArray, List.getElem_cons_succ, List.getElem_cons_zero, List.setIfInBounds_toArray, List.set_cons_zero, List.set_cons_succ]
          refine wpAnyIn_done (by kernel_rfl) ?_ _
          gi_wp2
          exact HFI.out.2.2 _
        · go_simp
          refine ⟨trivial, (CallsIn.inRound _ (callsIn_wide.2 (HCL.out _))).mono ?_⟩
          rintro e w2 ⟨rfl, hbw⟩
          have c1 := (HFV.out.b0.below hbw HFV.out.b0.lt).cell1
          have f1 := (HFV.out.b0.below hbw HFV.out.b0.lt).free 0
          have c2 := ((HFV.out.b0.below hbw HFV.out.b0.lt).alloc (.cells #[.string ⟨n.toArray⟩, .string ⟨u.toArray⟩, .bool s] 40)).cell1
          have HBW := Lib.hid hbw
          clear hbw
          dsimp only
          refine hK _ _ ?_
          clear hK K
          try simp only [Act.put, List.getElem_toArray, List.getElem_cons_succ, List.getElem_cons_zero, List.setIfInBounds_toArray, List.set_cons_zero, List.set_cons_succ]
          refine wpAnyIn_ready (rs := [0, 3]) (by kernel_rfl) (by simp) ?_
          refine (AllReadyIn.cons rfl (fun K hK => ?_) (AllReadyIn.cons rfl (fun K hK => ?_) AllReadyIn.nil))
          · go_simp
            refine hK _ _ ?_
            clear hK K
            try simp only [Act.put, List.getElem_toArray, List.getElem_cons_succ, List.getElem_cons_zero, List.setIfInBounds_toArray, List.set_cons_zero, List.set_cons_succ]
            refine wpAnyIn_ready (rs := [3]) (by kernel_rfl) (by simp) ?_
            refine (AllReadyIn.cons rfl (fun K hK => ?_) AllReadyIn.nil)
            go_simp
            refine hK _ _ ?_
            clear hK K
            try simp only [Act.put, List.getElem_toArray, List.getElem_cons_succ, List.getElem_cons_zero, List.setIfInBounds_toArray, List.set_cons_zero, List.set_cons_succ]
            refine wpAnyIn_ready (rs := [4]) (by kernel_rfl) (by simp) ?_
            refine (AllReadyIn.cons rfl (fun K hK => ?_) AllReadyIn.nil)
            refine stepIn_append_own _ rfl _ _ 31 rfl (N + 8) 40 i0 (.agg #[.string ⟨#[]⟩, .string ⟨#[]⟩, .bool false]) 3 40 Tryd.underlying31 hi hz0 hz1 hz2 rfl (by decide) _ _ _ rfl (HROW.out w2 HBW.out) ⟨w2.heap.size, 0, none⟩ 1 1 (prsC [⟨n, u, s⟩]) rfl rfl (HNEWS.out w2) (prsC_one _) (by decide) (by unfold maxLen; omega) (by omega) (by rw [World.size_alloc]; have := HBW.out.size; have := HV4.out; omega) ?_
            intro g2 cc w6 hown hgrow
            have HFI := Lib.hid (HFIN.out w2 g2 cc w6 HBW.out hgrow hown)
            have k3 := HFI.out.1
            have k4 := HFI.out.2.1
            clear hown hgrow
            refine hK _ _ ?_
            clear hK K
            try simp only [Act.put, List.getElem_toArray, List.getElem_cons_succ, List.getElem_cons_zero, List.setIfInBounds_toArray, List.set_cons_zero, List.set_cons_succ]
            refine wpAnyIn_ready (rs := [5]) (by kernel_rfl) (by simp) ?_
            refine (AllReadyIn.cons rfl (fun K hK => ?_) AllReadyIn.nil)
            go_simp
            refine hK _ _ ?_
            clear hK K
            try simp only [Act.put, List.getElem_toArray, List.getElem_cons_succ, List.getElem_cons_zero, List.setIfInBounds_toArray, List.set_cons_zero, List.set_cons_succ]
            refine wpAnyIn_done (by kernel_rfl) ?_ _
            gi_wp2
            exact HFI.out.2.2 _
          · go_simp
            refine hK _ _ ?_
            clear hK K
            try simp only [Act.put, List.getElem_toArray, List.getElem_cons_succ, List.getElem_cons_zero, List.setIfInBounds_toArray, List.set_cons_zero, List.set_cons_succ]
            refine wpAnyIn_ready (rs := [0]) (by kernel_rfl) (by simp) ?_
            refine (AllReadyIn.cons rfl (fun K hK => ?_) AllReadyIn.nil)
            go_simp
            refine hK _ _ ?_
            clear hK K
            try simp only [Act.put, List.getElem_toArray, List.getElem_cons_succ, List.getElem_cons_zero, List.setIfInBounds_toArray, List.set_cons_zero, List.set_cons_succ]
            refine wpAnyIn_ready (rs := [4]) (by kernel_rfl) (by simp) ?_
            refine (AllReadyIn.cons rfl (fun K hK => ?_) AllReadyIn.nil)
            refine stepIn_append_own _ rfl _ _ 31 rfl (N + 8) 40 i0 (.agg #[.string ⟨#[]⟩, .string ⟨#[]⟩, .bool false]) 3 40 Tryd.underlying31 hi hz0 hz1 hz2 rfl (by decide) _ _ _ rfl (HROW.out w2 HBW.out) ⟨w2.heap.size, 0, none⟩ 1 1 (prsC [⟨n, u, s⟩]) rfl rfl (HNEWS.out w2) (prsC_one _) (by decide) (by unfold maxLen; omega) (by omega) (by rw [World.size_alloc]; have := HBW.out.size; have := HV4.out; omega) ?_
            intro g2 cc w6 hown hgrow
            have HFI := Lib.hid (HFIN.out w2 g2 cc w6 HBW.out hgrow hown)
            have k3 := HFI.out.1
            have k4 := HFI.out.2.1
            clear hown hgrow
            refine hK _ _ ?_
            clear hK K
            try simp only [Act.put, List.getElem_toArray, List.getElem_cons_succ, List.getElem_cons_zero, List.setIfInBounds_toArray, List.set_cons_zero, List.set_cons_succ]
            refine wpAnyIn_ready (rs := [5]) (by kernel_rfl) (by simp) ?_
            refine (AllReadyIn.cons rfl (fun K hK => ?_) AllReadyIn.nil)
            go_simp
            refine hK _ _ ?_
            clear hK K
            try simp only [Act.put, List.getElem_toArray, List.getElem_cons_succ, List.getElem_cons_zero, List.setIfInBounds_toArray, List.set_cons_zero, List.set_cons_succ]
            refine wpAnyIn_done (by kernel_rfl) ?_ _
            gi_wp2
            exact HFI.out.2.2 _
    case done =>
      rw [HN.out]
      clear s4 hF4
      rintro W' ⟨v, hF⟩ hD
      have hF : PM w B N W' v (pairsL q) := hF
      obtain ⟨ov, oc, rfl⟩ := own_slice hF.row
      have c0 := hF.b0.cell1
      have HF := Lib.hid hF
      have HD := Lib.hid hD
      clear hF hD
      gi_wp2_with fail
      have hgp := grownBy_putObj' W' N (.deferred none)
      refine ⟨by simp, .inl ⟨_, _, rfl, run_takeDeferred HD.out, ?_⟩⟩
      have hF6 := HF.out.kept hgp hBN hsz1 (by omega) (by omega)
      exact ⟨_, results_tmp2 rfl _ _ _, ⟨_, rfl, own_mono hF6.row (by omega)⟩, hF6.bel⟩
  · have HR : Hid (prsR q = .inl (chkN q)) := Lib.hid (by unfold prsR; rw [if_neg hc])
    rw [HR.out]
    obtain ⟨m, hm⟩ : ∃ m, chkN q = m := ⟨_, rfl⟩
    have HM := Lib.hid hm
    rw [hm] at hc ⊢
    have e0 : ((m : Int) != 0) = true := by rw [bne_iff_ne]; omega
    have e1 : ((m : Int) == 0) = false := by rw [beq_eq_false_iff_ne]; omega
    clear hm hc
    refine (callsIn_wide (n := 8)).1 ?_
    refine callsIn_of_wp_marks Tryd.func19 rfl trivial ?_ rfl
    simp only [Tryd.ntmps19, List.size_toArray, List.length_cons, List.length_nil, Nat.reduceAdd, Nat.reduceSub, Array.replicate_succ, Array.replicate_zero, List.push_toArray, List.append_toArray, List.nil_append, List.cons_append]
    gi_wp2_with fail
    refine ⟨trivial, (callsIn_wide.2 (HCK.out _)).mono ?_⟩
    rintro e w1 ⟨rfl, hb1⟩
    rw [HM.out]
    gi_wp2_with fail
    refine ⟨_, results_tmp2 rfl _ _ _, ?_, hb1⟩
    rfl
end Go.Proofs.YtbbphchhdppipaaDoor
