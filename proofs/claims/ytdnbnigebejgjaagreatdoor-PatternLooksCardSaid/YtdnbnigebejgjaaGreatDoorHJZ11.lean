/-
  The law PatternLooks, for every tree, every node and every list of groups.
-/
import Derived.Test.YtdnbnigebejgjaaGreatDoorHL2
import Derived.Test.YtdnbnigebejgjaaGreatDoorHZ6
namespace Go.Proofs.YtdnbnigebejgjaaGreatDoor
open Go.RowKit Go.Shelf
set_option maxHeartbeats 2000000 in
theorem sameInts_any (zs : List Int) (hn : zs.length < 90000) (p q : Option Addr) (c d : Nat) (w : World) (hC : CellsIn w p zs.length (intC fun j => zs.getD j 0)) (hD : CellsIn w q zs.length (intC fun j => zs.getD j 0)) :
    Calls Tryz.prog 23 #[.slice p zs.length c, .slice q zs.length d] w fun e w' => e = .returned (.bool true) ∧ Below w.heap.size w w' := by
  have a0 : ((zs.length : Int) != (zs.length : Int)) = false := by simp
  go_enter Tryz.func23, Tryz.ntmps23
  go_wp2_with fail
  go_loopw [5] (fun i wr => ∃ k : Nat, k ≤ zs.length ∧ i = .int .i64 k ∧ Below w.heap.size w wr) (fun i _ => zs.length - (intOf i).toNat)
  case atStart => exact ⟨0, Nat.zero_le _, rfl, Below.refl _ _⟩
  case round =>
    obtain ⟨k, hk, rfl, hB⟩ := hrel
    by_cases hlt : k < zs.length
    · have a1 : decide ((k : Int) < (zs.length : Int)) = true := decide_eq_true (by omega)
      have a2 : decide (k < zs.length) = true := decide_eq_true hlt
      have hi2 : (k : Int) < (zs.length : Int) := by omega
      obtain ⟨g, off, rfl, hg, hcell⟩ := hC k hlt
      obtain ⟨g2, off2, rfl, hg2, hcell2⟩ := hD k hlt
      obtain ⟨z, hz⟩ : ∃ z, zs.getD k 0 = z := ⟨_, rfl⟩
      have c1 : wr.cell? ⟨g, off + k, none⟩ = some (.int .i64 z) := by
        rw [hB.cell (p := ⟨g, off + k, none⟩) hg, hcell]
        show some (Value.int .i64 (zs.getD k 0)) = _
        rw [hz]
      have c2 : wr.cell? ⟨g2, off2 + k, none⟩ = some (.int .i64 z) := by
        rw [hB.cell (p := ⟨g2, off2 + k, none⟩) hg2, hcell2]
        show some (Value.int .i64 (zs.getD k 0)) = _
        rw [hz]
      have hne : (z != z) = false := by simp
      have hw1 : wrap64 ((k : Int) + 1) = (k : Int) + 1 := by unfold wrap64; omega
      have hB2 := hB.drew
      clear hcell hcell2 hz
      go_wp2_with fail
      go_region
      all_goals
        go_wp2_with fail
        first
          | exact ⟨⟨k + 1, by omega, by go_num, hB2⟩, by simp [intOf]; omega⟩
          | (rw [hw1]; exact ⟨⟨k + 1, by omega, by go_num, hB2⟩, by simp [intOf]; omega⟩)
          | (go_roundw
             case rel => exact ⟨k + 1, by omega, by go_num, hB2⟩
             case measure => simp [intOf]; omega)
    · have a1 : decide ((k : Int) < (zs.length : Int)) = false := decide_eq_false (by omega)
      have a2 : decide (k < zs.length) = false := decide_eq_false hlt
      obtain rfl : k = zs.length := by omega
      go_wp2_with fail
      go_ret
      exact ⟨rfl, hB⟩
theorem ownI_form {W : World} {base : Nat} {v : Value} {zs : List Int} (h : W.ownsRow base 3 1 v zs.length (zs.map (Value.int .i64))) : ∃ p c, v = .slice p zs.length c ∧ CellsIn W p zs.length (intC fun j => zs.getD j 0) := by
  rcases h.2 with ⟨rfl, h0⟩ | ⟨g, cap, cur, rfl, hb, hg, rest⟩
  · exact ⟨none, 0, by rw [h0], fun j hj => by omega⟩
  · refine ⟨some ⟨g, 0, none⟩, cap, rfl, fun j hj => ⟨g, 0, rfl, lt_of_block hg, ?_⟩⟩
    have h1 : (zs.map (Value.int .i64))[j]? = some (intC (fun j => zs.getD j 0) j) := by
      rw [List.getElem?_map, List.getElem?_eq_getElem hj]
      show some (Value.int .i64 zs[j]) = some (.int .i64 (zs.getD j 0))
      rw [List.getD_eq_getElem?_getD, List.getElem?_eq_getElem hj]
      rfl
    have := h.cells (g := g) rfl j _ h1
    rw [Addr.add_lit] at this
    exact this
theorem kidR_len {L : List ND} {g k : Int} (hL : L.length < 80000) : (kidR L g k).1.length < 90000 := by
  unfold kidR
  split
  · split
    · have := chn_len L (L.length + 1) ((L.getD k.toNat (bare 0 .empty 0)).first)
      show (kidL L k.toNat).length < 90000
      unfold kidL
      omega
    · simp
  · simp
set_option maxHeartbeats 4000000 in
set_option maxRecDepth 100000 in
theorem looks_law (L : List ND) (v : Value) (bb en : Bool) (g node inner : Int) (pg : Option Addr) (cg : Nat) (G : List Int) (hcg : G.length ≤ cg) (hcm : cg ≤ 9223372036854775807) (W : World) (hTS : TS W) (h : NdsAt W v L) (hG : CellsIn W pg G.length (intC fun i => G.getD i 0)) :
    Calls Tryz.prog 5 #[.agg #[v, .bool bb, .bool en, .int .i64 g], .int .i64 node, .int .i64 inner, .slice pg G.length cg] W fun e w' => e = .returned (.bool true) ∧ Below W.heap.size W w' := by
  obtain ⟨p, cap, rfl, hcap, hN⟩ := h
  have HA := Lib.hid (⟨p, cap, rfl, hcap, hN⟩ : NdsAt W (.slice p L.length cap) L)
  have HG := Lib.hid hG
  have HAW := Lib.hid fun w h => awake_any w h
  have HTS := Lib.hid hTS
  obtain ⟨W1, hW1⟩ : ∃ W1, W.alloc (.cells #[.slice p L.length cap, .bool bb, .bool en, .int .i64 g] 25) = W1 := ⟨_, rfl⟩
  have hB1 : Below W.heap.size W W1 := by rw [← hW1]; exact (Below.refl _ W).alloc (Nat.le_refl _) _
  have s1 : CBlk 25 W1 W.heap.size [.slice p L.length cap, .bool bb, .bool en, .int .i64 g] := by rw [← hW1]; exact CBlk.new _ W _
  have hz1 : W1.heap.size = W.heap.size + 1 := by rw [← hW1]; simp
  obtain ⟨c0, c1, c2, c3⟩ : W1.cell? ⟨W.heap.size, 0, none⟩ = _ ∧ W1.cell? ⟨W.heap.size, 1, none⟩ = _ ∧ W1.cell? ⟨W.heap.size, 2, none⟩ = _ ∧ W1.cell? ⟨W.heap.size, 3, none⟩ = _ := ⟨s1.cell 0 (by simp), s1.cell 1 (by simp), s1.cell 2 (by simp), s1.cell 3 (by simp)⟩
  clear hG hTS hcap hN
  by_cases hl : 210 < L.length
  · have a1 : decide ((210 : Int) < (L.length : Int)) = true := decide_eq_true (by omega)
    have a2 : decide (210 < L.length) = true := decide_eq_true hl
    go_enter Tryz.func5, Tryz.ntmps5
    go_wp2_with fail
    refine (HAW.out _ (HTS.out.below hB1)).mono ?_
    rintro x w2 ⟨rfl, hb2⟩
    go_wp2_with fail
    go_ret
    exact ⟨rfl, hB1.trans (hb2.mono hB1.size)⟩
  have a1 : decide ((210 : Int) < (L.length : Int)) = false := decide_eq_false (by omega)
  have a2 : decide (210 < L.length) = false := decide_eq_false hl
  by_cases hg : 12 < G.length
  · have a3 : decide ((12 : Int) < (G.length : Int)) = true := decide_eq_true (by omega)
    have a4 : decide (12 < G.length) = true := decide_eq_true hg
    go_enter Tryz.func5, Tryz.ntmps5
    go_wp2_with fail
    refine (HAW.out _ (HTS.out.below hB1)).mono ?_
    rintro x w2 ⟨rfl, hb2⟩
    go_wp2_with fail
    go_ret
    exact ⟨rfl, hB1.trans (hb2.mono hB1.size)⟩
  have a3 : decide ((12 : Int) < (G.length : Int)) = false := decide_eq_false (by omega)
  have a4 : decide (12 < G.length) = false := decide_eq_false hg
  have hK1 := fun w h => kids_any L (by omega) (.slice p L.length cap) bb en g node w h
  have hK2 := fun w h => refKids_any L (by omega) (.slice p L.length cap) bb en g node w h
  have hI1 := fun w h => inside_any L (by omega) (.slice p L.length cap) bb en g node inner w h
  have hI2 := fun w h => inside19_any L (by omega) (.slice p L.length cap) bb en g node inner w h
  have hD1 := fun w h h2 => disjointF_any L (by omega) (.slice p L.length cap) bb en g pg cg G (by omega) hcg hcm w h h2
  have hD2 := fun w h h2 => disjoint19_any L (by omega) (.slice p L.length cap) bb en g pg cg G (by omega) w h h2
  have hkl := kidR_len (L := L) (g := g) (k := node) (by omega)
  obtain ⟨⟨zs, ke⟩, hkr⟩ : ∃ x, kidR L g node = x := ⟨_, rfl⟩
  obtain ⟨⟨ib, ie⟩, hir⟩ : ∃ x, insR L g node inner = x := ⟨_, rfl⟩
  obtain ⟨⟨db, de⟩, hdr⟩ : ∃ x, disF L g G = x := ⟨_, rfl⟩
  rw [hkr] at hK1 hK2 hkl
  rw [hir] at hI1 hI2
  rw [hdr] at hD1 hD2
  dsimp only at hK1 hK2 hI1 hI2 hD1 hD2 hkl
  have HK1 := Lib.hid hK1
  have HK2 := Lib.hid hK2
  have HI1 := Lib.hid hI1
  have HI2 := Lib.hid hI2
  have HD1 := Lib.hid hD1
  have HD2 := Lib.hid hD2
  have HKL := Lib.hid hkl
  have HB1 := Lib.hid hB1
  have HS := Lib.hid s1
  have HZ := Lib.hid hz1
  have HNX : Hid (∀ w, Below W.heap.size W w → NdsAt w (.slice p L.length cap) L ∧ CellsIn w pg G.length (intC fun i => G.getD i 0) ∧ TS w) := Lib.hid fun w hb => ⟨NdsAt.below HA.out hb (Nat.le_refl _), HG.out.below hb (Nat.le_refl _), HTS.out.below hb⟩
  have HNC : Hid (∀ w, Below W1.heap.size W1 w → w.cell? ⟨W.heap.size, 0, none⟩ = some (.slice p L.length cap) ∧ w.cell? ⟨W.heap.size, 1, none⟩ = some (.bool bb) ∧ w.cell? ⟨W.heap.size, 2, none⟩ = some (.bool en) ∧ w.cell? ⟨W.heap.size, 3, none⟩ = some (.int .i64 g)) := Lib.hid fun w hb => by
    have s := s1.below hb s1.lt
    exact ⟨s.cell 0 (by simp), s.cell 1 (by simp), s.cell 2 (by simp), s.cell 3 (by simp)⟩
  have hM : Hid (∀ w, Below W1.heap.size W1 w → Below W.heap.size W w) := Lib.hid fun w hb => hB1.trans (hb.mono hB1.size)
  clear hK1 hK2 hI1 hI2 hD1 hD2 hkl hkr hir hdr hl hg hB1 s1 hz1 hcg hcm HA HG HTS
  go_enter Tryz.func5, Tryz.ntmps5
  go_wp2_with fail
  refine (HK1.out _ (HNX.out _ (hM.out _ (Below.refl _ _))).1).mono ?_
  rintro e w2 ⟨u, rfl, hr1, hb2⟩
  obtain ⟨p1, q1, rfl, hC1⟩ := ownI_form hr1
  clear c0 c1 c2 c3 hr1
  obtain ⟨c0, c1, c2, c3⟩ := HNC.out _ hb2
  go_wp2_with fail
  refine (HK2.out _ (HNX.out _ (hM.out _ hb2)).1).mono ?_
  rintro e w3 ⟨u, rfl, hr2, hb3⟩
  obtain ⟨p2, q2, rfl, hC2⟩ := ownI_form hr2
  have hb30 := hb3
  have hb3 := hb2.trans (hb3.mono hb2.size)
  clear c0 c1 c2 c3 hr2 hb2
  have hC1 : CellsIn w3 p1 zs.length (intC fun j => zs.getD j 0) := hC1.below hb30 (Nat.le_refl _)
  clear hb30
  obtain ⟨c0, c1, c2, c3⟩ := HNC.out _ hb3
  go_wp2_with fail
  refine (HI1.out _ (HNX.out _ (hM.out _ hb3)).1).mono ?_
  rintro e w4 ⟨rfl, hb4⟩
  have hC1 : CellsIn w4 p1 zs.length (intC fun j => zs.getD j 0) := hC1.below hb4 (Nat.le_refl _)
  have hC2 : CellsIn w4 p2 zs.length (intC fun j => zs.getD j 0) := hC2.below hb4 (Nat.le_refl _)
  have hb4 := hb3.trans (hb4.mono hb3.size)
  clear c0 c1 c2 c3 hb3
  obtain ⟨c0, c1, c2, c3⟩ := HNC.out _ hb4
  go_wp2_with fail
  refine (HI2.out _ (HNX.out _ (hM.out _ hb4)).1).mono ?_
  rintro e w5 ⟨rfl, hb5⟩
  have hC1 : CellsIn w5 p1 zs.length (intC fun j => zs.getD j 0) := hC1.below hb5 (Nat.le_refl _)
  have hC2 : CellsIn w5 p2 zs.length (intC fun j => zs.getD j 0) := hC2.below hb5 (Nat.le_refl _)
  have hb5 := hb4.trans (hb5.mono hb4.size)
  clear c0 c1 c2 c3 hb4
  have HS1 := Lib.hid (sameInts_any zs HKL.out p1 p2 q1 q2 w5 hC1 hC2)
  have e1 : (ke != ke) = false := by simp
  have e2 : (ib != ib) = false := by simp
  have e3 : (ie != ie) = false := by simp
  clear hC1 hC2
  go_wp2_with fail
  refine HS1.out.mono ?_
  rintro e w6 ⟨rfl, hb6⟩
  have hb6 := hb5.trans (hb6.mono hb5.size)
  clear hb5 HS1
  obtain ⟨c0, c1, c2, c3⟩ := HNC.out _ hb6
  go_wp2_with fail
  refine (HD1.out _ (HNX.out _ (hM.out _ hb6)).1 (HNX.out _ (hM.out _ hb6)).2.1).mono ?_
  rintro e w7 ⟨rfl, hb7⟩
  have hb7 := hb6.trans (hb7.mono hb6.size)
  clear c0 c1 c2 c3 hb6
  obtain ⟨c0, c1, c2, c3⟩ := HNC.out _ hb7
  go_wp2_with fail
  refine (HD2.out _ (HNX.out _ (hM.out _ hb7)).1 (HNX.out _ (hM.out _ hb7)).2.1).mono ?_
  rintro e w8 ⟨rfl, hb8⟩
  have hb8 := hb7.trans (hb8.mono hb7.size)
  clear c0 c1 c2 c3 hb7
  have e4 : (db == db) = true := by simp
  have e5 : (de == de) = true := by simp
  go_wp2_with fail
  refine (HAW.out _ (HNX.out _ (hM.out _ hb8)).2.2).mono ?_
  rintro e w9 ⟨rfl, hb9⟩
  have hb9 := hM.out _ (hb8.trans (hb9.mono hb8.size))
  go_wp2_with fail
  go_ret
  exact ⟨rfl, hb9⟩
end Go.Proofs.YtdnbnigebejgjaaGreatDoor
