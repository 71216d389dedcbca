/-
  The reference's Rest and Split.
-/
import Derived.Test.YtfagjhadfonhdaaLRestF
import Derived.Test.YtfagjhadfonhdaaLFeed
import Derived.Deep.RegionHeld3
namespace Go.Proofs.Ytfagjhadfonhdaa
open Go.RowKit
set_option maxRecDepth 100000 in
set_option maxHeartbeats 2000000 in
theorem refRest7_any (s : Sp) (hl : s.txt.length < 200000000000000) (w : World) :
    Calls Try.prog 26 #[spV s] w fun e w' => e = .returned (restV s) ∧ Below w.heap.size w w' := by
  obtain ⟨x, hx⟩ : ∃ x, chkS s = x := ⟨_, rfl⟩
  have HX := Lib.hid hx
  have hR : restV s = if x = 0 then .tuple #[.string ⟨s.txt.toArray⟩, .int .i64 0] else .tuple #[.string ⟨#[]⟩, .int .i64 (x : Nat)] := by unfold restV; rw [hx]
  have HR := Lib.hid hR
  clear hx hR
  obtain ⟨n, t, g⟩ := s
  dsimp only at hl
  have hB := (Below.refl w.heap.size w).alloc (Nat.le_refl _) (.cells #[.int .i64 n, .string ⟨t.toArray⟩, .bool g] 24)
  have b1 := CBlk.new 24 w [.int .i64 n, .string ⟨t.toArray⟩, .bool g]
  have HB1 := Lib.hid b1
  clear b1
  by_cases h0 : x = 0
  · subst h0
    unfold spV
    go_enter Try.func26, Try.ntmps26
    go_wp2_with fail
    refine (refCheckS_any ⟨n, t, g⟩ hl _).mono ?_
    rintro e w1 ⟨rfl, hb⟩
    rw [HX.out]
    obtain ⟨a0, a1, a2⟩ := (HB1.out.below hb HB1.out.lt).cells3
    have hB := hB.trans (hb.mono hB.size)
    clear hb
    go_wp2_with fail
    go_ret2
    exact ⟨by rw [HR.out]; rfl, hB⟩
  · have e0 : ((x : Int) == 0) = false := by rw [beq_eq_false_iff_ne]; omega
    have HS : Hid (restV ⟨n, t, g⟩ = .tuple #[.string ⟨#[]⟩, .int .i64 (x : Nat)]) := Lib.hid (by rw [HR.out, if_neg h0])
    clear h0
    unfold spV
    go_enter Try.func26, Try.ntmps26
    go_wp2_with fail
    refine (refCheckS_any ⟨n, t, g⟩ hl _).mono ?_
    rintro e w1 ⟨rfl, hb⟩
    rw [HX.out]
    have hB := hB.trans (hb.mono hB.size)
    clear hb
    go_wp2_with fail
    go_ret2
    exact ⟨by rw [HS.out]; rfl, hB⟩
set_option maxRecDepth 100000 in
set_option maxHeartbeats 2000000 in
theorem refSplit_any (s : List UInt8) (n : Int) (hl : s.length < 1000000) (w : World) :
    Calls Try.prog 27 #[.string ⟨s.toArray⟩, .int .i64 n] w fun e w' => SplitPost w.heap.size (splR s n) e w' ∧ Below w.heap.size w w' := by
  by_cases hn : n < 1 ∨ 1536 < n
  · have HV : Hid (newV n = .tuple #[.agg #[.int .i64 0, .string ⟨#[]⟩, .bool false], .int .i64 2]) := Lib.hid (by unfold newV newR; rw [if_pos hn]; rfl)
    have HR : Hid (splR s n = (([], []), 2)) := Lib.hid (if_pos hn)
    clear hn
    go_enter Try.func27, Try.ntmps27
    go_wp2_with fail
    refine (refNew_any n _).mono ?_
    rintro e w1 ⟨rfl, hB⟩
    rw [HV.out]
    have hB := hB.alloc hB.size (.cells #[.int .i64 0, .string ⟨#[]⟩, .bool false] 24)
    go_wp2_with fail
    go_ret3
    exact ⟨by rw [HR.out]; exact ⟨_, rfl, World.ownsRow_nil _ _ _ _⟩, hB⟩
  · have HV : Hid (newV n = .tuple #[.agg #[.int .i64 n, .string ⟨#[]⟩, .bool false], .int .i64 0]) := Lib.hid (by unfold newV newR; rw [if_neg hn]; rfl)
    obtain ⟨⟨⟨fn, ft, fg⟩, F⟩, hF⟩ : ∃ z, feedL n [] s = z := ⟨_, rfl⟩
    have hR : splR s n = if fg = true then (([], []), 4) else ((F, ft), 0) := by unfold splR; rw [if_neg hn, hF]
    have HFD : Hid (feedR ⟨n, [], false⟩ s = ((⟨fn, ft, fg⟩, F), 0)) := Lib.hid (by unfold feedR; rw [if_pos (errS_of hn)]; dsimp only; rw [hF])
    have HFL : Hid (F.length < 1000000) := Lib.hid (by
      have := feed_len n s []
      rw [hF] at this
      dsimp only at this
      omega)
    have HR := Lib.hid hR
    clear hF hR hn
    go_enter Try.func27, Try.ntmps27
    go_wp2_with fail
    refine (refNew_any n _).mono ?_
    rintro e w1 ⟨rfl, hB1⟩
    rw [HV.out]
    have hB := hB1.alloc hB1.size (.cells #[.int .i64 n, .string ⟨#[]⟩, .bool false] 24)
    have b1 := CBlk.new 24 w1 [.int .i64 n, .string ⟨#[]⟩, .bool false]
    obtain ⟨W2, hW2⟩ : ∃ W2, w1.alloc (.cells #[.int .i64 n, .string ⟨#[]⟩, .bool false] 24) = W2 := ⟨_, rfl⟩
    have b1 : CBlk 24 W2 w1.heap.size [.int .i64 n, .string ⟨#[]⟩, .bool false] := by rw [← hW2]; exact b1
    have hB : Below w.heap.size w W2 := by rw [← hW2]; exact hB
    have hB0 := hB1
    obtain ⟨a0, a1, a2⟩ := b1.cells3
    have HB1 := Lib.hid b1
    have HW2 := Lib.hid hW2
    clear hW2 b1
    go_upto_region 2 with fail
    rw [HW2.out]
    go_wp2_with fail
    have hs1 := hB0.size
    have hs2 := hB.size
    have hlt := HB1.out.lt
    refine (refFeed_any ⟨n, [], false⟩ s (by simp) hl _).mono ?_
    rintro e w3 ⟨⟨v, rfl, hrow⟩, hb⟩
    rw [HFD.out] at hrow ⊢
    dsimp only at hrow ⊢
    have hB := hB.trans (hb.mono hB.size)
    have b1 := HB1.out.below hb HB1.out.lt
    obtain ⟨W4, hW4⟩ : ∃ W4, ((w3.setCell ⟨w1.heap.size, 0, none⟩ (.int .i64 fn)).setCell ⟨w1.heap.size, 1, none⟩ (.string ⟨ft.toArray⟩)).setCell ⟨w1.heap.size, 2, none⟩ (.bool fg) = W4 := ⟨_, rfl⟩
    have hrow4 : W4.ownsRow w.heap.size 27 2 v F.length (lnsC F) := by
      rw [← hW4]
      exact World.ownsRow.mono (ownsRow_setCell_below (ownsRow_setCell_below (ownsRow_setCell_below hrow (a := ⟨w1.heap.size, 0, none⟩) hlt _) (a := ⟨w1.heap.size, 1, none⟩) hlt _) (a := ⟨w1.heap.size, 2, none⟩) hlt _) (by omega)
    have b4 : CBlk 24 W4 w1.heap.size [.int .i64 fn, .string ⟨ft.toArray⟩, .bool fg] := by
      rw [← hW4]
      exact b1.store3 rfl _ _ _
    have hB4 : Below w.heap.size w W4 := by
      rw [← hW4]
      exact below_store3 hB hs1 _ _ _
    have HROW := Lib.hid hrow4
    have HB4 := Lib.hid hB4
    have HW4 := Lib.hid hW4
    have f0 := b1.free 0
    have f1 := b1.free 1
    have f2 := b1.free 2
    obtain ⟨a0, a1, a2⟩ := b1.cells3
    obtain ⟨c0, c1, c2⟩ := b4.cells3
    clear hb hrow b1 hlt hW4 hrow4 b4 hB4 hB
    unfold spV
    dsimp only
    go_upto_region 5 with fail
    rw [HW4.out]
    clear a0 a1 a2 f0 f1 f2
    cases fg
    · have HRR : Hid (splR s n = ((F, ft), 0)) := Lib.hid (by rw [HR.out]; rfl)
      go_wp2_with fail
      trace_state
      go_region
      all_goals
        go_wp2_with fail
        go_ret3
        exact ⟨by rw [HRR.out]; exact ⟨_, rfl, HROW.out.drew⟩, HB4.out.drew⟩
    · have HRR : Hid (splR s n = (([], []), 4)) := Lib.hid (by rw [HR.out]; rfl)
      go_wp2_with fail
      go_ret3
      exact ⟨by rw [HRR.out]; exact ⟨_, rfl, World.ownsRow_nil _ _ _ _⟩, HB4.out⟩
end Go.Proofs.Ytfagjhadfonhdaa
