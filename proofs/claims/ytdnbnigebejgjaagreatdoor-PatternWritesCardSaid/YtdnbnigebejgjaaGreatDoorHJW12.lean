/-
  OwnTree: a tree in new memory.
-/
import Derived.Test.YtdnbnigebejgjaaGreatDoorHJW9
import Derived.Test.YtdnbnigebejgjaaGreatDoorHL2
import Derived.Laws.AppendOwnNone
import Derived.Laws.OwnMore
namespace Go.Proofs.YtdnbnigebejgjaaGreatDoor
open Go.RowKit Go.Shelf
theorem nds_none {W : World} {L : List ND} (h : NdsIn W none L) : L = [] := by
  cases L with
  | nil => rfl
  | cons x r =>
    obtain ⟨b, off, e, _⟩ := h 0 (by simp)
    cases e
theorem nds_news {W X : World} {ad : Addr} {L : List ND} (h : NdsIn W (some ad) L) (hb : Below W.heap.size W X) : ∀ j u, (ndsC L)[j]? = some u → X.cell? (ad.add j) = some u := fun j u hj => by
  have hlt : j < L.length * 9 := by
    have := (List.getElem?_eq_some_iff.1 hj).1
    rwa [ndsC_length] at this
  obtain ⟨b, off, e, hbl, hc⟩ := h j hlt
  injection e with e
  subst e
  rw [Addr.add_lit, hb.cell (p := ⟨b, off + j, none⟩) hbl, hc]
  dsimp only
  rw [List.getD_eq_getElem?_getD, hj]
  rfl
theorem ndsC_one {L : List ND} : ∀ u ∈ ndsC L, u.oneCell' = true := fun u hu => by
  obtain ⟨n, _, hn⟩ := List.mem_flatMap.1 hu
  exact ndC_one n u hn
/-- What holds when the nodes are copied, before the tree is returned. -/
def OwI (W : World) (L : List ND) (bb en : Bool) (g : Int) (Y : World) : Prop :=
  ∃ p c, CBlk 25 Y W.heap.size [.slice p L.length c, .bool bb, .bool en, .int .i64 g] ∧ CBlk 25 Y (W.heap.size + 1) [.slice none 0 0, .bool false, .bool false, .int .i64 0] ∧ (∃ base, Y.ownsRow base 54 9 (.slice p L.length c) L.length (ndsC L)) ∧ Below W.heap.size W Y
theorem owI_of {W X w1 : World} {L : List ND} {bb en : Bool} {g : Int} {v v' : Value} (s1 : CBlk 25 X W.heap.size [v, .bool bb, .bool en, .int .i64 g]) (r1 : CBlk 25 X (W.heap.size + 1) [.slice none 0 0, .bool false, .bool false, .int .i64 0]) (hB : Below W.heap.size W X) (hX : X.heap.size = W.heap.size + 2)
    (hg : (X.alloc (.cells #[] 54)).grownBy w1 (some X.heap.size)) (ho : w1.ownsRow X.heap.size 54 9 v' L.length (ndsC L)) :
    w1.cell? ⟨W.heap.size, 0, none⟩ = some v ∧ w1.frozen? ⟨W.heap.size, 0, none⟩ = false ∧ OwI W L bb en g (w1.setCell ⟨W.heap.size, 0, none⟩ v') := by
  have s2 := (s1.alloc (.cells #[] 54)).kept hg (by intro e; injection e; omega)
  have r2 := (r1.alloc (.cells #[] 54)).kept hg (by intro e; injection e; omega)
  have hB2 : Below W.heap.size W w1 := (hB.alloc (by omega) (.cells #[] 54)).grown hg (by rw [World.size_alloc]; omega) (fun r e => by injection e; omega)
  obtain ⟨p, c, rfl⟩ := own_slice ho
  refine ⟨s2.cell 0 (by simp), s2.free 0, p, c, s2.set 0 _, r2.other ⟨W.heap.size, 0, none⟩ (by show W.heap.size ≠ _; omega) _, ⟨_, ownsRow_setCell_other ho (fun e => ?_) _⟩, hB2.setCell (p := ⟨W.heap.size, 0, none⟩) (Nat.le_refl _) _⟩
  exact CBlk.not_row s2 (by decide) ho e.symm
theorem owF_of {W Y : World} {L : List ND} {bb en : Bool} {g : Int} {p : Option Addr} {n c : Nat} {z0 z1 z2 z3 : Value} (hn : n = L.length) (y2 : CBlk 25 Y (W.heap.size + 1) [z0, z1, z2, z3]) (y3 : ∃ base, Y.ownsRow base 54 9 (.slice p n c) L.length (ndsC L)) (y4 : Below W.heap.size W Y) :
    CBlk 25 ((((Y.setCell ⟨W.heap.size + 1, 0, none⟩ (.slice p n c)).setCell ⟨W.heap.size + 1, 1, none⟩ (.bool bb)).setCell ⟨W.heap.size + 1, 2, none⟩ (.bool en)).setCell ⟨W.heap.size + 1, 3, none⟩ (.int .i64 g)) (W.heap.size + 1) [.slice p n c, .bool bb, .bool en, .int .i64 g] ∧
      NdsAt ((((Y.setCell ⟨W.heap.size + 1, 0, none⟩ (.slice p n c)).setCell ⟨W.heap.size + 1, 1, none⟩ (.bool bb)).setCell ⟨W.heap.size + 1, 2, none⟩ (.bool en)).setCell ⟨W.heap.size + 1, 3, none⟩ (.int .i64 g)) (.slice p n c) L ∧
      Below W.heap.size W ((((Y.setCell ⟨W.heap.size + 1, 0, none⟩ (.slice p n c)).setCell ⟨W.heap.size + 1, 1, none⟩ (.bool bb)).setCell ⟨W.heap.size + 1, 2, none⟩ (.bool en)).setCell ⟨W.heap.size + 1, 3, none⟩ (.int .i64 g)) := by
  obtain ⟨base, y3⟩ := y3
  have hne : (Value.slice p n c).ownBlock ≠ some (W.heap.size + 1) := fun e => CBlk.not_row y2 (by decide) y3 e.symm
  refine ⟨(((y2.set 0 (.slice p n c)).set 1 (.bool bb)).set 2 (.bool en)).set 3 (.int .i64 g), ?_, ?_⟩
  · subst hn
    exact nds_of_own (ownsRow_setCell_other (ownsRow_setCell_other (ownsRow_setCell_other (ownsRow_setCell_other y3 hne _) hne _) hne _) hne _)
  · exact (((y4.setCell (p := ⟨W.heap.size + 1, 0, none⟩) (Nat.le_succ _) _).setCell (p := ⟨W.heap.size + 1, 1, none⟩) (Nat.le_succ _) _).setCell (p := ⟨W.heap.size + 1, 2, none⟩) (Nat.le_succ _) _).setCell (p := ⟨W.heap.size + 1, 3, none⟩) (Nat.le_succ _) _
set_option maxHeartbeats 8000000 in
set_option maxRecDepth 100000 in
theorem ownTree_any (L : List ND) (hL : L.length < 100000) (v : Value) (bb en : Bool) (g : Int) (W : World) (h : NdsAt W v L) :
    Calls Tryz.prog 10 #[.agg #[v, .bool bb, .bool en, .int .i64 g]] W fun e w' => (∃ u, e = .returned (.agg #[u, .bool bb, .bool en, .int .i64 g]) ∧ NdsAt w' u L) ∧ Below W.heap.size W w' := by
  obtain ⟨i0, hi, hz0, hz1, hz2⟩ := info_parts infoNd
  obtain ⟨X, hX⟩ : ∃ X, (W.alloc (.cells #[v, .bool bb, .bool en, .int .i64 g] 25)).alloc (.cells #[.slice none 0 0, .bool false, .bool false, .int .i64 0] 25) = X := ⟨_, rfl⟩
  have hB1 : Below W.heap.size W X := by rw [← hX]; exact ((Below.refl _ W).alloc (Nat.le_refl _) _).alloc (by simp) _
  have s1 : CBlk 25 X W.heap.size [v, .bool bb, .bool en, .int .i64 g] := by rw [← hX]; exact (CBlk.new _ W _).alloc _
  have r1 : CBlk 25 X (W.heap.size + 1) [.slice none 0 0, .bool false, .bool false, .int .i64 0] := by
    rw [← hX]
    have := CBlk.new 25 (W.alloc (.cells #[v, .bool bb, .bool en, .int .i64 g] 25)) [.slice none 0 0, .bool false, .bool false, .int .i64 0]
    rwa [World.size_alloc] at this
  have hz : X.heap.size = W.heap.size + 2 := by rw [← hX]; simp
  have hlit := World.ownsRow_lit (base := X.heap.size) (e := 54) (size := 9) X #[] 0 (Nat.le_refl _) (by decide) rfl
  have hEnd : ∀ v' w1, (X.alloc (.cells #[] 54)).grownBy w1 (some X.heap.size) → w1.ownsRow X.heap.size 54 9 v' L.length (ndsC L) → _ := fun v' w1 h1 h2 => owI_of s1 r1 hB1 hz h1 h2
  have HE := Lib.hid hEnd
  have t0 := s1.cell 0 (by simp)
  simp only [List.getElem_cons_zero] at t0
  have u0 : (X.alloc (.cells #[] 54)).cell? ⟨W.heap.size, 0, none⟩ = some v := (s1.alloc (.cells #[] 54)).cell 0 (by simp)
  obtain ⟨p, cap, rfl, hp, hN⟩ := h
  have HX := Lib.hid hX
  have HB := Lib.hid hB1
  have HZ := Lib.hid hz
  clear hEnd s1 r1 hX hB1 hz
  cases p with
  | none =>
    obtain rfl := hp rfl
    obtain rfl := nds_none hN
    have HL := Lib.hid hlit
    have hE := HE.out _ _ (jgrefl _ _) hlit
    have HO := Lib.hid hE.2.2
    have f0 := hE.2.1
    rw [List.length_nil] at HX t0 u0 hE
    clear hlit hE HE
    go_enter Tryz.func10, Tryz.ntmps10
    go_upto_region 1 with fail
    rw [HX.out]
    go_upto_region 2 with (at_builtin; refine wpList_append_own_none rfl _ _ 23 rfl _ 54 i0 9 Tryz.underlying23 hi _ _ _ rfl HL.out rfl ?_)
    obtain ⟨p, c, y1, y2, y3, y4⟩ := HO.out
    generalize (X.alloc (.cells #[] 54)).setCell ⟨W.heap.size, 0, none⟩ (.slice (some ⟨X.heap.size, 0, none⟩) 0 0) = Y at y1 y2 y3 y4 ⊢
    have e0 := y1.cell 0 (by simp)
    have e1 := y1.cell 1 (by simp)
    have e2 := y1.cell 2 (by simp)
    have e3 := y1.cell 3 (by simp)
    have d0 := y2.cell 0 (by simp)
    have d1 := y2.cell 1 (by simp)
    have d2 := y2.cell 2 (by simp)
    have d3 := y2.cell 3 (by simp)
    simp only [List.getElem_cons_succ, List.getElem_cons_zero] at e0 e1 e2 e3 d0 d1 d2 d3
    have f0 := y2.free 0
    have f1 := y2.free 1
    have f2 := y2.free 2
    have f3 := y2.free 3
    have hF := owF_of (bb := bb) (en := en) (g := g) rfl y2 y3 y4
    have HF := Lib.hid hF
    clear hF y1 y2 y3 y4 HO
    go_wp2_with fail
    exact bodyPost_ret (tree_results1 HF.out.1 rfl _ rfl) rfl ⟨⟨_, rfl, HF.out.2.1⟩, HF.out.2.2⟩
  | some ad =>
    have hnews := nds_news hN (hb := (HB.out.alloc (by have := HZ.out; omega) (.cells #[] 54)))
    have HN := Lib.hid hnews
    have HL := Lib.hid hlit
    clear hnews hlit hN
    go_enter Tryz.func10, Tryz.ntmps10
    go_upto_region 1 with fail
    rw [HX.out]
    go_upto_region 2 with (at_builtin; refine wpList_append_own _ rfl _ _ 23 rfl X.heap.size 54 i0 (.agg #[.int .i64 0, .int .i64 0, .int .u64 0, .int .u64 0, .int .u64 0, .int .u64 0, .int .i64 0, .int .i64 0, .int .i64 0]) 9 72 Tryz.underlying23 hi hz0 hz1 hz2 rfl (by decide) _ _ _ rfl HL.out ad L.length cap (ndsC L) rfl (ndsC_length L) HN.out ndsC_one (by unfold maxLen; omega) (by omega) (by rw [World.size_alloc]; omega) ?_; intro v' w1 hown hgrow _; rw [Nat.zero_add, List.nil_append] at hown; obtain ⟨q, d, rfl⟩ := own_slice hown; have hE := HE.out _ w1 hgrow hown; have HO := Lib.hid hE.2.2; have f0 := hE.2.1; have v0 := hE.1; clear hE hown hgrow)
    obtain ⟨p, c, y1, y2, y3, y4⟩ := HO.out
    generalize w1.setCell ⟨W.heap.size, 0, none⟩ (.slice q L.length d) = Y at y1 y2 y3 y4 ⊢
    have e0 := y1.cell 0 (by simp)
    have e1 := y1.cell 1 (by simp)
    have e2 := y1.cell 2 (by simp)
    have e3 := y1.cell 3 (by simp)
    have d0 := y2.cell 0 (by simp)
    have d1 := y2.cell 1 (by simp)
    have d2 := y2.cell 2 (by simp)
    have d3 := y2.cell 3 (by simp)
    simp only [List.getElem_cons_succ, List.getElem_cons_zero] at e0 e1 e2 e3 d0 d1 d2 d3
    have f0 := y2.free 0
    have f1 := y2.free 1
    have f2 := y2.free 2
    have f3 := y2.free 3
    have hF := owF_of (bb := bb) (en := en) (g := g) rfl y2 y3 y4
    have HF := Lib.hid hF
    clear hF y1 y2 y3 y4 HO
    go_wp2_with fail
    exact bodyPost_ret (tree_results1 HF.out.1 rfl _ rfl) rfl ⟨⟨_, rfl, HF.out.2.1⟩, HF.out.2.2⟩
end Go.Proofs.YtdnbnigebejgjaaGreatDoor
