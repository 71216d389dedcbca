/-
  The laws ReqlineParts and ReqlineParses.
-/
import Derived.Test.YtnnldmgdojhejaaDoorQHelp
namespace Go.Proofs.YtnnldmgdojhejaaDoor
open Go.RowKit
set_option maxRecDepth 100000 in
set_option maxHeartbeats 4000000 in
theorem reqlineParts_any (l : List UInt8) (w : World) :
    Calls Tryd.prog 3 #[.string ⟨l.toArray⟩] w fun e w' => e = .returned (.bool true) ∧ Below w.heap.size w w' := by
  by_cases h1 : 2000 < l.length
  · have d : decide (2000 < l.length) = true := decide_eq_true h1
    have D := Lib.hid d
    clear h1 d
    go_enter Tryd.func3, Tryd.ntmps3
    go_wp2_with fail
    refine (heavy_any l _).mono ?_
    rintro e w1 ⟨rfl, rfl⟩
    rw [D.out]
    go_wp2_with fail
    refine (awake8_any _).mono ?_
    rintro e w1 ⟨rfl, hb⟩
    have HB := Lib.hid hb
    clear hb
    go_wp2_with fail
    go_ret
    exact ⟨rfl, HB.out⟩
  have d : decide (2000 < l.length) = false := decide_eq_false h1
  have D := Lib.hid d
  have hl : l.length < 100000 := by omega
  obtain ⟨⟨a, b, c, n⟩, hp⟩ : ∃ p, prtR l = p := ⟨_, rfl⟩
  obtain ⟨⟨st, at'⟩, hL⟩ : ∃ p, lngR l = p := ⟨_, rfl⟩
  have HP := Lib.hid hp
  have HL := Lib.hid hL
  clear h1 d hp hL
  go_enter Tryd.func3, Tryd.ntmps3
  go_wp2_with fail
  refine (heavy_any l _).mono ?_
  rintro e w1 ⟨rfl, rfl⟩
  rw [D.out]
  go_wp2_with fail
  refine (rparts_any l hl _).mono ?_
  rintro e w1 ⟨rfl, hb⟩
  rw [HP.out]
  unfold prtW
  dsimp only
  have HB1 := Lib.hid hb
  clear hb
  go_wp2_with fail
  refine (refParts8_any l (by omega) _).mono ?_
  rintro e w2 ⟨rfl, hb⟩
  rw [HP.out]
  unfold prtW
  dsimp only
  have HB2 := Lib.hid (HB1.out.trans (hb.mono HB1.out.size))
  clear hb HB1
  go_wp2_with fail
  refine (rlong_any l hl _).mono ?_
  rintro e w3 ⟨rfl, hb⟩
  rw [HL.out]
  unfold lngW
  dsimp only
  have HB3 := Lib.hid (HB2.out.trans (hb.mono HB2.out.size))
  clear hb HB2
  go_wp2_with fail
  refine (refLong_any l (by omega) _).mono ?_
  rintro e w4 ⟨rfl, hb⟩
  rw [HL.out]
  unfold lngW
  dsimp only
  have HB4 := Lib.hid (HB3.out.trans (hb.mono HB3.out.size))
  clear hb HB3
  go_wp2_with fail
  refine (awake8_any _).mono ?_
  rintro e w5 ⟨rfl, hb⟩
  have HB5 := Lib.hid (HB4.out.trans (hb.mono HB4.out.size))
  clear hb
  go_wp2_with fail
  go_ret
  exact ⟨rfl, HB5.out⟩
set_option maxRecDepth 100000 in
set_option maxHeartbeats 4000000 in
theorem reqlineParses_any (l : List UInt8) (w : World) :
    Calls Tryd.prog 4 #[.string ⟨l.toArray⟩] w fun e w' => e = .returned (.bool true) ∧ Below w.heap.size w w' := by
  by_cases h1 : 300 < l.length
  · have d : decide ((300 : Int) < (l.length : Int)) = true := decide_eq_true (by omega)
    have dn : decide (300 < l.length) = true := decide_eq_true h1
    clear h1
    go_enter Tryd.func4, Tryd.ntmps4
    go_wp2_with fail
    refine (awake8_any _).mono ?_
    rintro e w1 ⟨rfl, hb⟩
    have HB := Lib.hid hb
    clear hb
    go_wp2_with fail
    go_ret
    exact ⟨rfl, HB.out⟩
  have d : decide ((300 : Int) < (l.length : Int)) = false := decide_eq_false (by omega)
  have dn : decide (300 < l.length) = false := decide_eq_false h1
  have hl : l.length < 100000 := by omega
  obtain ⟨⟨⟨m, t⟩, st, at'⟩, hp⟩ : ∃ p, prsR l = p := ⟨_, rfl⟩
  have HP := Lib.hid hp
  clear h1 hp
  go_enter Tryd.func4, Tryd.ntmps4
  go_wp2_with fail
  refine (rparse_any l hl _).mono ?_
  rintro e w1 ⟨rfl, hb⟩
  rw [HP.out]
  unfold prsW rlV
  dsimp only
  obtain ⟨W2, hW2⟩ : ∃ W2, w1.alloc (.cells #[.string ⟨m.toArray⟩, .string ⟨t.toArray⟩] 29) = W2 := ⟨_, rfl⟩
  have HB := Lib.hid (show Below w.heap.size w W2 by rw [← hW2]; exact hb.alloc hb.size _)
  have hz : CBlk 29 W2 w1.heap.size [.string ⟨m.toArray⟩, .string ⟨t.toArray⟩] := by rw [← hW2]; exact CBlk.new _ w1 _
  have HZ := Lib.hid hz
  clear hb hz
  go_upto_region 2 with fail
  clear hW2
  refine (refParse8_any l (by omega) _).mono ?_
  rintro e w3 ⟨rfl, hb⟩
  rw [HP.out]
  unfold prsW rlV
  dsimp only
  have hz := HZ.out.below hb HZ.out.lt
  obtain ⟨W4, hW4⟩ : ∃ W4, w3.alloc (.cells #[.string ⟨m.toArray⟩, .string ⟨t.toArray⟩] 29) = W4 := ⟨_, rfl⟩
  have HB4 := Lib.hid (show Below w.heap.size w W4 by rw [← hW4]; exact (HB.out.trans (hb.mono HB.out.size)).alloc (HB.out.trans (hb.mono HB.out.size)).size _)
  have hz2 : CBlk 29 W4 w1.heap.size [.string ⟨m.toArray⟩, .string ⟨t.toArray⟩] := by rw [← hW4]; exact hz.alloc _
  have hy2 : CBlk 29 W4 w3.heap.size [.string ⟨m.toArray⟩, .string ⟨t.toArray⟩] := by rw [← hW4]; exact CBlk.new _ w3 _
  obtain ⟨z0, z1⟩ := qcells2 hz2
  obtain ⟨y0, y1⟩ := qcells2 hy2
  clear hb hz hz2 hy2 HB HZ
  go_upto_region 3 with fail
  clear hW4
  go_wp2_with fail
  refine (awake8_any _).mono ?_
  rintro e w5 ⟨rfl, hb⟩
  have HB5 := Lib.hid (HB4.out.trans (hb.mono HB4.out.size))
  clear hb
  go_wp2_with fail
  go_ret
  exact ⟨rfl, HB5.out⟩
end Go.Proofs.YtnnldmgdojhejaaDoor
