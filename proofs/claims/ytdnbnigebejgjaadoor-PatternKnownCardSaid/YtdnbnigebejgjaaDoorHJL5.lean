/-
  The law PatternBack returns true for every text.
-/
import Derived.Test.YtdnbnigebejgjaaDoorHL2
namespace Go.Proofs.YtdnbnigebejgjaaDoor
open Go.RowKit Go.Shelf
/-- A store of what the cell holds keeps everything. -/
theorem below_same {t : TypeId} {w : World} {B : Nat} {cs : List Value} (h : CBlk t w B cs) (i : Nat) (v : Value) (hv : cs.set i v = cs) {n : Nat} {a : World} (hb : Below n a w) : Below n a (w.setCell ⟨B, i, none⟩ v) := by
  refine hb.trans ⟨rfl, rfl, rfl, by simp [World.setCell], fun k _ => ?_⟩
  by_cases hk : k = B
  · subst hk
    have h1 := h.set i v
    rw [hv] at h1
    exact h1.trans h.symm
  · exact Below.heap_setCell _ _ _ _ hk
set_option maxHeartbeats 8000000 in
set_option maxRecDepth 100000 in
theorem back_law (s : List UInt8) (W : World) (hTS : TS W) :
    Calls Tryd.prog 4 #[.string ⟨s.toArray⟩] W fun e w' => e = .returned (.bool true) ∧ Below W.heap.size W w' := by
  have HAW := Lib.hid fun w h => awake_any w h
  by_cases hl : 64 < s.length
  · have a1 : decide ((64 : Int) < (s.length : Int)) = true := decide_eq_true (by omega)
    have a2 : decide (64 < s.length) = true := decide_eq_true hl
    clear hl
    go_enter Tryd.func4, Tryd.ntmps4
    go_wp2_with fail
    refine (HAW.out _ hTS).mono ?_
    rintro x w1 ⟨rfl, hb1⟩
    go_wp2_with fail
    go_ret
    exact ⟨rfl, hb1⟩
  have a1 : decide ((64 : Int) < (s.length : Int)) = false := decide_eq_false (by omega)
  have a2 : decide (64 < s.length) = false := decide_eq_false hl
  clear hl
  have HP := Lib.hid fun w h => parse19_any s w h
  by_cases he : (parP s).2.1 = 0
  case neg =>
    have h1 : (parP s).1 = .none := par_f he
    obtain ⟨⟨er, at_⟩, hE⟩ : ∃ x, (parP s).2 = x := ⟨_, rfl⟩
    rw [hE] at he
    rw [h1, hE] at HP
    unfold treeV at HP
    dsimp only [TR.none] at HP he
    have b1 : ((er : Int) != 0) = true := by simp; omega
    have b2 : ((er : Int) == 0) = false := by simp; omega
    have b3 : (er != 0) = true := by simpa using he
    have b4 : (er == 0) = false := by simpa using he
    clear h1 hE he
    go_enter Tryd.func4, Tryd.ntmps4
    go_wp2_with fail
    refine (HP.out _ hTS.2.1).mono ?_
    rintro q w2 ⟨u, rfl, ⟨r, cr, rfl, hcr, hu⟩, hb2⟩
    clear hu
    go_wp2_with fail
    have hB3 : Below W.heap.size W ((w2.alloc (.cells #[.slice r 0 cr, .bool false, .bool false, .int .i64 0] 24)).alloc (.cells #[.int .i64 (er : Int), .int .i64 (at_ : Int)] 38)) := (hb2.alloc hb2.size _).alloc (by have := hb2.size; simp; omega) _
    refine (HAW.out _ (hTS.below hB3)).mono ?_
    rintro x w4 ⟨rfl, hb4⟩
    go_wp2_with fail
    go_ret
    exact ⟨rfl, hB3.trans (hb4.mono hB3.size)⟩
  have hck := par_chk he
  have hback := par_back he
  have hE : (parP s).2 = (0, 0) := by
    obtain ⟨_, _, _, _, _, _, _, _, e⟩ := par_s he
    rw [e]
  obtain ⟨⟨L, b, e, g⟩, hT⟩ : ∃ T, (parP s).1 = T := ⟨_, rfl⟩
  have hS : parP s = (⟨L, b, e, g⟩, 0, 0) := by rw [← hT, ← hE]
  rw [hT] at hck hback
  rw [hT, hE] at HP
  rw [hS] at hback
  unfold treeV at HP
  dsimp only at HP hck hback
  clear hT hE he hS
  have hL1 := (chk_zero hck).1
  have HC := Lib.hid fun v w h => check_any L (by omega) v b e g w h
  rw [hck] at HC
  have HX := Lib.hid fun v w h1 h2 => text_any L (by omega) v b e g w h1 h2
  have hx : txtR L b e g = if 64 < (fullT L b e).length then ([], 4) else (fullT L b e, 0) := if_pos hck
  obtain ⟨T, hTT⟩ : ∃ T, fullT L b e = T := ⟨_, rfl⟩
  rw [hTT] at hx hback
  rw [hx] at HX
  clear hx hTT hck
  by_cases hlT : 64 < T.length
  · rw [if_pos hlT] at HX
    dsimp only at HX
    clear hback hlT
    go_enter Tryd.func4, Tryd.ntmps4
    go_wp2_with fail
    refine (HP.out _ hTS.2.1).mono ?_
    rintro q w2 ⟨u, rfl, ⟨p, cp, rfl, hcp, hu⟩, hb2⟩
    have HU := Lib.hid hu
    clear hu
    go_wp2_with fail
    have t0 := (CBlk.new 24 w2 [.slice p L.length cp, .bool b, .bool e, .int .i64 g]).alloc (.cells #[.int .i64 0, .int .i64 0] 38)
    generalize hX : (w2.alloc (.cells #[.slice p L.length cp, .bool b, .bool e, .int .i64 g] 24)).alloc (.cells #[.int .i64 0, .int .i64 0] 38) = X at t0 ⊢
    have hb3 : Below w2.heap.size w2 X := by rw [← hX]; exact ((Below.refl _ w2).alloc (Nat.le_refl _) _).alloc (by simp) _
    have hB3 := hb2.trans (hb3.mono hb2.size)
    refine (HC.out _ _ ⟨p, cp, rfl, hcp, HU.out.below hb3 (Nat.le_refl _)⟩).mono ?_
    rintro q w4 ⟨rfl, hb4⟩
    have hB4 := hB3.trans (hb4.mono hB3.size)
    have t1 := t0.below hb4 t0.lt
    have hb34 := hb3.trans (hb4.mono hb3.size)
    have c0 := t1.cell 0 (by simp)
    have c1 := t1.cell 1 (by simp)
    have c2 := t1.cell 2 (by simp)
    have c3 := t1.cell 3 (by simp)
    go_wp2_with fail
    refine (HX.out _ _ ⟨p, cp, rfl, hcp, HU.out.below hb34 (Nat.le_refl _)⟩ (hTS.below hB4)).mono ?_
    rintro q w5 ⟨rfl, hb5⟩
    have hB5 := hB4.trans (hb5.mono hB4.size)
    clear c0 c1 c2 c3
    go_wp2_with fail
    refine (HAW.out _ (hTS.below hB5)).mono ?_
    rintro x w6 ⟨rfl, hb6⟩
    go_wp2_with fail
    go_ret
    exact ⟨rfl, hB5.trans (hb6.mono hB5.size)⟩
  · rw [if_neg hlT] at HX
    dsimp only at HX
    have hpT := hback (by omega)
    have HP2 := Lib.hid fun w h => parse19_any T w h
    rw [hpT] at HP2
    unfold treeV at HP2
    dsimp only at HP2
    have HS := Lib.hid fun (u v : Value) w (h1 : NdsAt w u L) (h2 : NdsAt w v L) => sameTree_any L L (by omega) u v b e b e g g w h1 h2
    have HD : Hid (decide (L = L ∧ b = b ∧ e = e ∧ g = g) = true) := Lib.hid (decide_eq_true ⟨rfl, rfl, rfl, rfl⟩)
    rw [HD.out] at HS
    have hef := eq_fault 0 0 0 0
    rw [decide_eq_true ⟨rfl, rfl⟩] at hef
    clear hback hlT hpT
    go_enter Tryd.func4, Tryd.ntmps4
    go_wp2_with fail
    refine (HP.out _ hTS.2.1).mono ?_
    rintro q w2 ⟨u, rfl, ⟨p, cp, rfl, hcp, hu⟩, hb2⟩
    have HU := Lib.hid hu
    clear hu
    go_wp2_with fail
    have t0 := (CBlk.new 24 w2 [.slice p L.length cp, .bool b, .bool e, .int .i64 g]).alloc (.cells #[.int .i64 0, .int .i64 0] 38)
    have f0 := CBlk.new 38 (w2.alloc (.cells #[.slice p L.length cp, .bool b, .bool e, .int .i64 g] 24)) [.int .i64 0, .int .i64 0]
    rw [World.size_alloc] at f0
    have hz : ((w2.alloc (.cells #[.slice p L.length cp, .bool b, .bool e, .int .i64 g] 24)).alloc (.cells #[.int .i64 0, .int .i64 0] 38)).heap.size = w2.heap.size + 1 + 1 := by simp
    generalize hX : (w2.alloc (.cells #[.slice p L.length cp, .bool b, .bool e, .int .i64 g] 24)).alloc (.cells #[.int .i64 0, .int .i64 0] 38) = X at t0 f0 hz ⊢
    have hb3 : Below w2.heap.size w2 X := by rw [← hX]; exact ((Below.refl _ w2).alloc (Nat.le_refl _) _).alloc (by simp) _
    have hB3 := hb2.trans (hb3.mono hb2.size)
    obtain ⟨B, hBe⟩ : ∃ B, w2.heap.size = B := ⟨_, rfl⟩
    rw [hBe] at t0 f0 hz hb3
    have hWB : W.heap.size ≤ B := by have := hb2.size; omega
    rw [hBe]
    have hUX := HU.out.below hb3 (by rw [hBe]; exact Nat.le_refl _)
    have HUX := Lib.hid hUX
    clear hX hUX hb2 HU hBe hb3
    refine (HC.out _ _ ⟨p, cp, rfl, hcp, HUX.out⟩).mono ?_
    rintro q w4 ⟨rfl, hb4⟩
    have hB4 := hB3.trans (hb4.mono hB3.size)
    have t1 := t0.below hb4 t0.lt
    have f1 := f0.below hb4 f0.lt
    have HU4 := Lib.hid (HUX.out.below hb4 (Nat.le_refl _))
    have hz4 : B + 2 ≤ w4.heap.size := by have := hb4.size; omega
    clear t0 f0 hb4 hB3 HUX hz
    have c0 := t1.cell 0 (by simp)
    have c1 := t1.cell 1 (by simp)
    have c2 := t1.cell 2 (by simp)
    have c3 := t1.cell 3 (by simp)
    go_wp2_with fail
    refine (HX.out _ _ ⟨p, cp, rfl, hcp, HU4.out⟩ (hTS.below hB4)).mono ?_
    rintro q w5 ⟨rfl, hb5⟩
    have hB5 := hB4.trans (hb5.mono hB4.size)
    have t2 := t1.below hb5 t1.lt
    have f2 := f1.below hb5 f1.lt
    have HU5 := Lib.hid (HU4.out.below hb5 (Nat.le_refl _))
    have hz5 : B + 2 ≤ w5.heap.size := by have := hb5.size; omega
    clear c0 c1 c2 c3 t1 f1 hb5 hB4 HU4 hz4
    go_wp2_with fail
    refine (HP2.out _ (hTS.below hB5).2.1).mono ?_
    rintro q w6 ⟨u, rfl, ⟨r, cr, rfl, hcr, hu⟩, hb6⟩
    have hB6 := hB5.trans (hb6.mono hB5.size)
    have t3 := t2.below hb6 t2.lt
    have f3 := f2.below hb6 f2.lt
    have HU6 := Lib.hid (HU5.out.below hb6 (Nat.le_refl _))
    have HV6 := Lib.hid hu
    have hz6 : B + 2 ≤ w6.heap.size := by have := hb6.size; omega
    clear t2 f2 hb6 hB5 HU5 hz5 hu
    have c0 := f3.cell 0 (by simp)
    have c1 := f3.cell 1 (by simp)
    have g0 := f3.free 0
    have g1 := f3.free 1
    have l0 := t3.lt
    have l1 := f3.lt
    go_wp2_with fail
    have hs1 := below_same f3 0 (.int .i64 0) rfl (Below.refl w6.heap.size w6)
    have f4 : CBlk 38 (w6.setCell ⟨B + 1, 0, none⟩ (.int .i64 0)) (B + 1) [.int .i64 0, .int .i64 0] := f3.set 0 (.int .i64 0)
    have hs2 := below_same f4 1 (.int .i64 0) rfl hs1
    have f5 : CBlk 38 ((w6.setCell ⟨B + 1, 0, none⟩ (.int .i64 0)).setCell ⟨B + 1, 1, none⟩ (.int .i64 0)) (B + 1) [.int .i64 0, .int .i64 0] := f4.set 1 (.int .i64 0)
    have hsz : ((w6.setCell ⟨B + 1, 0, none⟩ (.int .i64 0)).setCell ⟨B + 1, 1, none⟩ (.int .i64 0)).heap.size = w6.heap.size := by simp only [World.size_setCell]
    generalize hY : (w6.setCell ⟨B + 1, 0, none⟩ (.int .i64 0)).setCell ⟨B + 1, 1, none⟩ (.int .i64 0) = Y at hs2 f5 hsz ⊢
    have n1 := CBlk.new 24 Y [.slice r L.length cr, .bool b, .bool e, .int .i64 g]
    rw [hsz] at n1
    have hb7 : Below w6.heap.size w6 (Y.alloc (.cells #[.slice r L.length cr, .bool b, .bool e, .int .i64 g] 24)) := hs2.alloc (by rw [hsz]; exact Nat.le_refl _) _
    have f6 := f5.alloc (.cells #[.slice r L.length cr, .bool b, .bool e, .int .i64 g] 24)
    have t4 := t3.below hb7 t3.lt
    have HU7 := Lib.hid (HU6.out.below hb7 (Nat.le_refl _))
    have HV7 := Lib.hid (HV6.out.below hb7 (Nat.le_refl _))
    have hB7 := hB6.trans (hb7.mono hB6.size)
    have hz7 := hb7.size
    generalize hZ : Y.alloc (.cells #[.slice r L.length cr, .bool b, .bool e, .int .i64 g] 24) = Z at n1 f6 t4 HU7 HV7 hB7 hz7 ⊢
    obtain ⟨C, hC⟩ : ∃ C, w6.heap.size = C := ⟨_, rfl⟩
    rw [hC] at n1 ⊢
    clear hY hZ hC hs1 f4 hs2 f5 hsz hb7 HU6 HV6 c0 c1 g0 g1 l0 l1 t3 f3 hB6
    refine (HX.out _ _ ⟨r, cr, rfl, hcr, HV7.out⟩ (hTS.below hB7)).mono ?_
    rintro q w8 ⟨rfl, hb8⟩
    have hB8 := hB7.trans (hb8.mono hB7.size)
    have t5 := t4.below hb8 t4.lt
    have f7 := f6.below hb8 f6.lt
    have n2 := n1.below hb8 n1.lt
    have HU8 := Lib.hid (HU7.out.below hb8 (Nat.le_refl _))
    have HV8 := Lib.hid (HV7.out.below hb8 (Nat.le_refl _))
    clear t4 f6 n1 HU7 HV7 hB7 hb8
    have c0 := f7.cell 0 (by simp)
    have c1 := f7.cell 1 (by simp)
    have d0 := t5.cell 0 (by simp)
    have d1 := t5.cell 1 (by simp)
    have d2 := t5.cell 2 (by simp)
    have d3 := t5.cell 3 (by simp)
    have e0 := n2.cell 0 (by simp)
    have e1 := n2.cell 1 (by simp)
    have e2 := n2.cell 2 (by simp)
    have e3 := n2.cell 3 (by simp)
    go_wp2_with fail
    refine (HS.out _ _ _ ⟨p, cp, rfl, hcp, HU8.out⟩ ⟨r, cr, rfl, hcr, HV8.out⟩).mono ?_
    rintro q w9 ⟨rfl, hb9⟩
    have hB9 := hB8.trans (hb9.mono hB8.size)
    clear c0 c1 d0 d1 d2 d3 e0 e1 e2 e3
    go_wp2_with fail
    refine (HAW.out _ (hTS.below hB9)).mono ?_
    rintro x w10 ⟨rfl, hb10⟩
    go_wp2_with fail
    go_ret
    exact ⟨rfl, hB9.trans (hb10.mono hB9.size)⟩
end Go.Proofs.YtdnbnigebejgjaaDoor
