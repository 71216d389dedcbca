/-
  The law text's heavy, parses and awake.
-/
import Derived.Test.YtnnldmgdojhejaaDoorQPEq
namespace Go.Proofs.YtnnldmgdojhejaaDoor
open Go.RowKit
theorem heavy_any (l : List UInt8) (w : World) :
    Calls Tryd.prog 7 #[.string ⟨l.toArray⟩] w fun e w' => e = .returned (.bool (decide (2000 < l.length))) ∧ w = w' := by
  have hd : decide ((2000 : Int) < (l.length : Int)) = decide (2000 < l.length) := by rw [decide_eq_decide]; omega
  obtain ⟨q, hq⟩ : ∃ q, decide (2000 < l.length) = q := ⟨_, rfl⟩
  rw [hq] at hd ⊢
  clear hq
  go_enter Tryd.func7, Tryd.ntmps7
  go_wp2_with fail
  go_ret
  exact ⟨by first | rfl | simp, rfl⟩
set_option maxRecDepth 100000 in
set_option maxHeartbeats 4000000 in
/-- A line that has a fault, or is too long. -/
theorem parses_bad (l : List UInt8) (hl : l.length < 100000) (st at' : Nat) (h : prsR l = (([], []), st, at')) (hs : st ≠ 0) (w : World) :
    Calls Tryd.prog 15 #[.string ⟨l.toArray⟩, .int .i64 (st : Int), .int .i64 (at' : Int)] w fun e w' => e = .returned (.bool true) ∧ Below w.heap.size w w' := by
  have H := Lib.hid h
  have e1 : ((st : Int) != 0) = true := by rw [bne_iff_ne]; omega
  clear h hs
  go_enter Tryd.func15, Tryd.ntmps15
  go_wp2_with fail
  refine (rparse_any l hl _).mono ?_
  rintro e w1 ⟨rfl, hb⟩
  rw [H.out]
  unfold prsW rlV
  dsimp only
  obtain ⟨W2, hW2⟩ : ∃ W2, w1.alloc (.cells #[.string ⟨#[]⟩, .string ⟨#[]⟩] 29) = W2 := ⟨_, rfl⟩
  have HB : Hid (Below w.heap.size w W2) := Lib.hid (by rw [← hW2]; exact hb.alloc hb.size _)
  have hz : CBlk 29 W2 w1.heap.size [.string ⟨#[]⟩, .string ⟨#[]⟩] := by rw [← hW2]; exact CBlk.new _ w1 _
  obtain ⟨z0, z1⟩ := qcells2 hz
  have HW := Lib.hid hW2
  clear hb hz hW2
  go_upto_region 2 with fail
  rw [HW.out]
  clear HW
  go_wp2_with fail
  go_ret
  exact ⟨rfl, HB.out⟩
set_option maxRecDepth 100000 in
set_option maxHeartbeats 4000000 in
/-- A request line. -/
theorem parses_good (l : List UInt8) (hl : l.length < 100000) (m t : List UInt8) (at' : Nat) (h : prsR l = ((m, t), 0, at')) (hm : m ≠ []) (w : World) :
    Calls Tryd.prog 15 #[.string ⟨l.toArray⟩, .int .i64 0, .int .i64 (at' : Int)] w fun e w' => e = .returned (.bool true) ∧ Below w.heap.size w w' := by
  have H := Lib.hid h
  have he := q_empty hm
  clear h hm
  go_enter Tryd.func15, Tryd.ntmps15
  go_wp2_with fail
  refine (rparse_any l hl _).mono ?_
  rintro e w1 ⟨rfl, hb⟩
  rw [H.out]
  unfold prsW rlV
  dsimp only
  rw [show ((0 : Nat) : Int) = 0 from rfl]
  obtain ⟨W2, hW2⟩ : ∃ W2, w1.alloc (.cells #[.string ⟨m.toArray⟩, .string ⟨t.toArray⟩] 29) = W2 := ⟨_, rfl⟩
  have HB : Hid (Below w.heap.size w W2) := Lib.hid (by rw [← hW2]; exact hb.alloc hb.size _)
  have hz : CBlk 29 W2 w1.heap.size [.string ⟨m.toArray⟩, .string ⟨t.toArray⟩] := by rw [← hW2]; exact CBlk.new _ w1 _
  obtain ⟨z0, z1⟩ := qcells2 hz
  clear hb hz
  go_upto_region 2 with fail
  clear hW2
  go_wp2_with fail
  go_ret
  exact ⟨rfl, HB.out⟩
theorem aw1 : prsR [71, 69, 84, 32, 47, 97, 63, 98, 32, 72, 84, 84, 80, 47, 49, 46, 49] = (([71, 69, 84], [47, 97, 63, 98]), 0, 17) := by decide +kernel
theorem aw2 : prsR [71, 69, 84, 32, 47, 97, 32, 72, 84, 84, 80, 47, 49, 46, 48] = (([], []), 400, 14) := by decide +kernel
set_option maxRecDepth 100000 in
set_option maxHeartbeats 4000000 in
theorem awake8_any (w : World) :
    Calls Tryd.prog 8 #[] w fun e w' => e = .returned (.bool true) ∧ Below w.heap.size w w' := by
  go_enter Tryd.func8, Tryd.ntmps8
  go_wp2_with fail
  refine (rparse_any [71, 69, 84, 32, 47, 97, 63, 98, 32, 72, 84, 84, 80, 47, 49, 46, 49] (by decide) _).mono ?_
  rintro e w1 ⟨rfl, hb⟩
  rw [aw1]
  unfold prsW rlV
  dsimp only
  rw [show ((0 : Nat) : Int) = 0 from rfl, show ((17 : Nat) : Int) = 17 from rfl]
  obtain ⟨W2, hW2⟩ : ∃ W2, w1.alloc (.cells #[.string ⟨#[71, 69, 84]⟩, .string ⟨#[47, 97, 63, 98]⟩] 29) = W2 := ⟨_, rfl⟩
  have HB : Hid (Below w.heap.size w W2) := Lib.hid (by rw [← hW2]; exact hb.alloc hb.size _)
  have hz : CBlk 29 W2 w1.heap.size [.string ⟨#[71, 69, 84]⟩, .string ⟨#[47, 97, 63, 98]⟩] := by rw [← hW2]; exact CBlk.new _ w1 _
  obtain ⟨z0, z1⟩ := qcells2 hz
  clear hb hz
  go_upto_region 2 with fail
  clear hW2
  go_wp2_with fail
  refine (parses_bad [71, 69, 84, 32, 47, 97, 32, 72, 84, 84, 80, 47, 49, 46, 48] (by decide) 400 14 aw2 (by decide) _).mono ?_
  rintro e w3 ⟨rfl, hb⟩
  have HB3 := Lib.hid (HB.out.trans (hb.mono HB.out.size))
  clear hb
  go_wp2_with fail
  go_ret
  exact ⟨rfl, HB3.out⟩
end Go.Proofs.YtnnldmgdojhejaaDoor
