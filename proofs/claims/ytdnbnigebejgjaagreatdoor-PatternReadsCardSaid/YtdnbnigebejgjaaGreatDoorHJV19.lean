/-
  The law PatternReads, for every text.
-/
import Derived.Test.YtdnbnigebejgjaaGreatDoorHL2
import Derived.Test.YtdnbnigebejgjaaGreatDoorHRef
import Derived.Test.YtdnbnigebejgjaaGreatDoorHJV18
namespace Go.Proofs.YtdnbnigebejgjaaGreatDoor
open Go.RowKit Go.Shelf
theorem sameTree_eq (L : List ND) (hL : L.length < 1000000000) (v u : Value) (b e : Bool) (g : Int) (W : World) (h : NdsAt W v L) (h' : NdsAt W u L) :
    Calls Tryz.prog 9 #[.agg #[v, .bool b, .bool e, .int .i64 g], .agg #[u, .bool b, .bool e, .int .i64 g]] W fun x w' => x = .returned (.bool true) ∧ Below W.heap.size W w' := by
  refine (sameTree_any L L hL v u b e b e g g W h h').mono ?_
  rintro x w' ⟨rfl, hb⟩
  exact ⟨by simp, hb⟩
theorem par_short (s : List UInt8) : (parP s).1.L.length < 1000000000 := by
  by_cases h : (parP s).2.1 = 0
  · exact Nat.lt_of_le_of_lt (chk_zero (par_chk h)).1 (by omega)
  · rw [par_f h]; decide
set_option maxHeartbeats 8000000 in
set_option maxRecDepth 100000 in
theorem reads_law (s : List UInt8) (W : World) (hTS : TS W) :
    Calls Tryz.prog 3 #[.string ⟨s.toArray⟩] W fun e w' => e = .returned (.bool true) ∧ Below W.heap.size W w' := by
  have HAW := Lib.hid fun w h => awake_any w h
  by_cases hl : 100 < s.length
  · have a1 : decide ((100 : Int) < (s.length : Int)) = true := decide_eq_true (by omega)
    have a2 : decide (100 < s.length) = true := decide_eq_true hl
    have HT := Lib.hid hTS
    clear hl hTS
    go_enter Tryz.func3, Tryz.ntmps3
    go_wp2_with fail
    refine (HAW.out _ HT.out).mono ?_
    rintro x w2 ⟨rfl, hb2⟩
    go_wp2_with fail
    go_ret
    exact ⟨rfl, hb2⟩
  have a1 : decide ((100 : Int) < (s.length : Int)) = false := decide_eq_false (by omega)
  have a2 : decide (100 < s.length) = false := decide_eq_false hl
  have hP := fun w h => parse19_any s w h
  have hR := fun w => rParse_any s w
  have hsh := par_short s
  unfold RP at hR
  obtain ⟨⟨⟨L, bb, en, g⟩, fe, fa⟩, hp⟩ : ∃ x, parP s = x := ⟨_, rfl⟩
  rw [hp] at hP hR hsh
  unfold treeV at hP hR
  dsimp only at hP hR hsh
  have HP := Lib.hid hP
  have HR := Lib.hid hR
  have HSM := Lib.hid fun v u w h h' => sameTree_eq L hsh v u bb en g w h h'
  have hef := fun w => eq_fault (fe : Int) (fa : Int) (fe : Int) (fa : Int) w
  simp only [and_self, decide_true] at hef
  have HT := Lib.hid hTS
  clear hP hR hsh hp hl hTS
  go_enter Tryz.func3, Tryz.ntmps3
  go_wp2_with fail
  refine (HP.out _ HT.out.2.1).mono ?_
  rintro x w2 ⟨u, rfl, ⟨r, cr, rfl, hcr, hu⟩, hb2⟩
  have HU := Lib.hid (⟨r, cr, rfl, hcr, hu⟩ : NdsAt w2 (.slice r L.length cr) L)
  clear hcr hu
  go_upto_region 4 with fail
  have t1 := (CBlk.new 25 w2 [.slice r L.length cr, .bool bb, .bool en, .int .i64 g]).alloc (.cells #[.int .i64 (fe : Int), .int .i64 (fa : Int)] 28)
  have f1 := CBlk.new 28 (w2.alloc (.cells #[.slice r L.length cr, .bool bb, .bool en, .int .i64 g] 25)) [.int .i64 (fe : Int), .int .i64 (fa : Int)]
  have hb3 : Below w2.heap.size w2 ((w2.alloc (.cells #[.slice r L.length cr, .bool bb, .bool en, .int .i64 g] 25)).alloc (.cells #[.int .i64 (fe : Int), .int .i64 (fa : Int)] 28)) := ((Below.refl _ w2).alloc (Nat.le_refl _) _).alloc (by simp) _
  rw [World.size_alloc] at f1
  have HU3 := Lib.hid (NdsAt.below HU.out hb3 (Nat.le_refl _))
  have hB3 := hb2.trans (hb3.mono hb2.size)
  obtain ⟨N2, hN2⟩ : ∃ N2, w2.heap.size = N2 := ⟨_, rfl⟩
  rw [hN2] at t1 f1 ⊢
  obtain ⟨X1, hX1⟩ : ∃ X1, (w2.alloc (.cells #[.slice r L.length cr, .bool bb, .bool en, .int .i64 g] 25)).alloc (.cells #[.int .i64 (fe : Int), .int .i64 (fa : Int)] 28) = X1 := ⟨_, rfl⟩
  have t1' : CBlk 25 X1 N2 [.slice r L.length cr, .bool bb, .bool en, .int .i64 g] := hX1 ▸ t1
  have f1' : CBlk 28 X1 (N2 + 1) [.int .i64 (fe : Int), .int .i64 (fa : Int)] := hX1 ▸ f1
  rw [hX1] at HU3 hB3 ⊢
  clear t1 f1 hb3 hN2 hX1 hb2 HU
  go_wp2_with fail
  refine (HR.out _).mono ?_
  rintro x w4 ⟨u, rfl, ⟨r2, cr2, rfl, hcr2, hu2⟩, hb4⟩
  have HV := Lib.hid (⟨r2, cr2, rfl, hcr2, hu2⟩ : NdsAt w4 (.slice r2 L.length cr2) L)
  have HU4 := Lib.hid (NdsAt.below HU3.out hb4 (Nat.le_refl _))
  have t4 := t1'.below hb4 t1'.lt
  have f4 := f1'.below hb4 f1'.lt
  have hB4 := hB3.trans (hb4.mono hB3.size)
  clear hcr2 hu2 hb4 HU3 t1' f1' hB3
  go_upto_region 5 with fail
  have t5 := (CBlk.new 25 w4 [.slice r2 L.length cr2, .bool bb, .bool en, .int .i64 g]).alloc (.cells #[.int .i64 (fe : Int), .int .i64 (fa : Int)] 28)
  have f5 := CBlk.new 28 (w4.alloc (.cells #[.slice r2 L.length cr2, .bool bb, .bool en, .int .i64 g] 25)) [.int .i64 (fe : Int), .int .i64 (fa : Int)]
  have hb5 : Below w4.heap.size w4 ((w4.alloc (.cells #[.slice r2 L.length cr2, .bool bb, .bool en, .int .i64 g] 25)).alloc (.cells #[.int .i64 (fe : Int), .int .i64 (fa : Int)] 28)) := ((Below.refl _ w4).alloc (Nat.le_refl _) _).alloc (by simp) _
  rw [World.size_alloc] at f5
  have HU5 := Lib.hid (NdsAt.below HU4.out hb5 (Nat.le_refl _))
  have HV5 := Lib.hid (NdsAt.below HV.out hb5 (Nat.le_refl _))
  have t6 := t4.below hb5 t4.lt
  have f6 := f4.below hb5 f4.lt
  have hB5 := hB4.trans (hb5.mono hB4.size)
  obtain ⟨N4, hN4⟩ : ∃ N4, w4.heap.size = N4 := ⟨_, rfl⟩
  rw [hN4] at t5 f5 ⊢
  obtain ⟨X2, hX2⟩ : ∃ X2, (w4.alloc (.cells #[.slice r2 L.length cr2, .bool bb, .bool en, .int .i64 g] 25)).alloc (.cells #[.int .i64 (fe : Int), .int .i64 (fa : Int)] 28) = X2 := ⟨_, rfl⟩
  have t5' : CBlk 25 X2 N4 [.slice r2 L.length cr2, .bool bb, .bool en, .int .i64 g] := hX2 ▸ t5
  have f5' : CBlk 28 X2 (N4 + 1) [.int .i64 (fe : Int), .int .i64 (fa : Int)] := hX2 ▸ f5
  rw [hX2] at HU5 HV5 hB5 t6 f6 ⊢
  clear t5 f5 hb5 hN4 hX2 HU4 HV t4 f4 hB4
  have hcell : X2.cell? ⟨N2, 0, none⟩ = some (.slice r L.length cr) ∧ X2.cell? ⟨N2, 1, none⟩ = some (.bool bb) ∧ X2.cell? ⟨N2, 2, none⟩ = some (.bool en) ∧ X2.cell? ⟨N2, 3, none⟩ = some (.int .i64 g) := ⟨t6.cell 0 (by simp), t6.cell 1 (by simp), t6.cell 2 (by simp), t6.cell 3 (by simp)⟩
  have hcell2 : X2.cell? ⟨N4, 0, none⟩ = some (.slice r2 L.length cr2) ∧ X2.cell? ⟨N4, 1, none⟩ = some (.bool bb) ∧ X2.cell? ⟨N4, 2, none⟩ = some (.bool en) ∧ X2.cell? ⟨N4, 3, none⟩ = some (.int .i64 g) := ⟨t5'.cell 0 (by simp), t5'.cell 1 (by simp), t5'.cell 2 (by simp), t5'.cell 3 (by simp)⟩
  obtain ⟨c0, c1, c2, c3⟩ := hcell
  obtain ⟨d0, d1, d2, d3⟩ := hcell2
  have HF6 := Lib.hid f6
  have HF5 := Lib.hid f5'
  have HQ := Lib.hid (HSM.out _ _ X2 HU5.out HV5.out)
  clear t6 t5' f6 f5'
  go_wp2_with fail
  refine HQ.out.mono ?_
  rintro x w6 ⟨rfl, hb6⟩
  have f7 := HF6.out.below hb6 HF6.out.lt
  have f8 := HF5.out.below hb6 HF5.out.lt
  have hB6 := hB5.trans (hb6.mono hB5.size)
  have g0 : w6.cell? ⟨N2 + 1, 0, none⟩ = some (.int .i64 (fe : Int)) := f7.cell 0 (by simp)
  have g1 : w6.cell? ⟨N2 + 1, 1, none⟩ = some (.int .i64 (fa : Int)) := f7.cell 1 (by simp)
  have g2 : w6.cell? ⟨N4 + 1, 0, none⟩ = some (.int .i64 (fe : Int)) := f8.cell 0 (by simp)
  have g3 : w6.cell? ⟨N4 + 1, 1, none⟩ = some (.int .i64 (fa : Int)) := f8.cell 1 (by simp)
  clear c0 c1 c2 c3 d0 d1 d2 d3 f7 f8 hb6 hB5 HQ
  go_wp2_with fail
  refine (HAW.out _ (HT.out.below hB6)).mono ?_
  rintro x w7 ⟨rfl, hb7⟩
  go_wp2_with fail
  go_ret
  exact ⟨rfl, hB6.trans (hb7.mono hB6.size)⟩
end Go.Proofs.YtdnbnigebejgjaaGreatDoor
