/-
  The law DotsKnown. The library's variable of the search must hold a number.
-/
import Derived.Test.YtkchhgpebleioaaDoorDLaw4
namespace Go.Proofs.YtkchhgpebleioaaDoor
open Go.RowKit
theorem kn1 : normB [47] = true := by decide +kernel
theorem kn2 : normB [47, 97, 47, 98] = true := by decide +kernel
theorem kn3 : normB [47, 97, 47, 46, 47, 98] = false := by decide +kernel
theorem kn4 : normB [47, 97, 47, 46, 46] = false := by decide +kernel
theorem kn5 : normB [97] = false := by decide +kernel
theorem kn6 : normB [] = false := by decide +kernel
theorem kn7 : normB [47, 46, 97] = true := by decide +kernel
theorem kn8 : cleanR [47, 46, 46] = .inl 18 := by decide +kernel
theorem kn9 : cleanR [97] = .inl 3 := by decide +kernel
theorem kn10 : segsR [47] = .inr [] := by decide +kernel
theorem kn11 : segsR [47, 97, 47, 98] = .inr [[97], [98]] := by decide +kernel
theorem kn12 : segsR [47, 97, 47, 98, 47] = .inr [[97], [98]] := by decide +kernel
theorem kn13 : cleanR [47, 97, 47, 98, 47, 46] = .inr [47, 97, 47, 98, 47] := by decide +kernel
theorem kn14 : cleanR [47, 97, 47, 98, 47, 46, 46] = .inr [47, 97, 47] := by decide +kernel
theorem kn15 : cleanR [47, 47] = .inr [47] := by decide +kernel
theorem kn16 : underR [47, 97] [47, 97, 47] = .tuple #[.bool false, .int .i64 3] := by kernel_rfl
theorem kn17 : parentR [47] = .inl 6 := by decide +kernel
theorem kn18 : joinR [47, 97] [46, 46] = .inl 3 := by decide +kernel
theorem kn19 : underR [47, 97] [47, 97] = .tuple #[.bool true, .int .i64 0] := by kernel_rfl
theorem kn20 : underR [47, 97, 47] [47, 97] = .tuple #[.bool true, .int .i64 0] := by kernel_rfl
theorem kn21 : underR [47, 98] [47] = .tuple #[.bool true, .int .i64 0] := by kernel_rfl
theorem kn22 : parentR [47, 97, 47, 98] = .inr [47, 97] := by decide +kernel
theorem kn23 : parentR [47, 97, 47, 98, 47] = .inr [47, 97] := by decide +kernel
theorem kn24 : parentR [47, 97] = .inr [47] := by decide +kernel
theorem kn25 : joinR [47, 97] [98] = .inr [47, 97, 47, 98] := by decide +kernel
theorem kn26 : joinR [47] [98] = .inr [47, 98] := by decide +kernel
theorem kn27 : makeR [[97], [98]] true = .inr [47, 97, 47, 98, 47] := by decide +kernel
theorem kn28 : makeR [] true = .inr [47] := by decide +kernel
theorem kn29 : commonR [47, 97, 47, 98, 47, 99] [47, 97, 47, 98, 47, 100] = .inr [47, 97, 47, 98] := by decide +kernel
theorem kn30 : commonR [47, 97, 47] [47, 97, 47, 98] = .inr [47, 97] := by decide +kernel
theorem kn31 : commonR [47, 97] [47, 98] = .inr [47] := by decide +kernel
set_option maxRecDepth 100000 in
set_option maxHeartbeats 16000000 in
theorem dotsKnown_any (w : World) (hM : ML w) :
    Calls Tryd.prog 3 #[] w fun e w' => e = .returned (.bool true) ∧ Below w.heap.size w w' := by
  have HM := Lib.hid hM
  have hB : Below w.heap.size w w := Below.refl _ _
  clear hM
  go_enter Tryd.func3, Tryd.ntmps3
  go_wp2_with fail
  refine (normal_any [47] (by decide) _ (HM.out.below hB)).mono ?_
  rintro e w1 ⟨rfl, hb⟩
  rw [kn1]
  have hB := hB.trans (hb.mono hB.size)
  clear hb
  go_wp2_with fail
  refine (normal_any [47, 97, 47, 98] (by decide) _ (HM.out.below hB)).mono ?_
  rintro e w2 ⟨rfl, hb⟩
  rw [kn2]
  have hB := hB.trans (hb.mono hB.size)
  clear hb
  go_wp2_with fail
  refine (normal_any [47, 97, 47, 46, 47, 98] (by decide) _ (HM.out.below hB)).mono ?_
  rintro e w3 ⟨rfl, hb⟩
  rw [kn3]
  have hB := hB.trans (hb.mono hB.size)
  clear hb
  go_wp2_with fail
  refine (normal_any [47, 97, 47, 46, 46] (by decide) _ (HM.out.below hB)).mono ?_
  rintro e w4 ⟨rfl, hb⟩
  rw [kn4]
  have hB := hB.trans (hb.mono hB.size)
  clear hb
  go_wp2_with fail
  refine (normal_any [97] (by decide) _ (HM.out.below hB)).mono ?_
  rintro e w5 ⟨rfl, hb⟩
  rw [kn5]
  have hB := hB.trans (hb.mono hB.size)
  clear hb
  go_wp2_with fail
  refine (normal_any [] (by decide) _ (HM.out.below hB)).mono ?_
  rintro e w6 ⟨rfl, hb⟩
  rw [kn6]
  have hB := hB.trans (hb.mono hB.size)
  clear hb
  go_wp2_with fail
  refine (normal_any [47, 46, 97] (by decide) _ (HM.out.below hB)).mono ?_
  rintro e w7 ⟨rfl, hb⟩
  rw [kn7]
  have hB := hB.trans (hb.mono hB.size)
  clear hb
  go_wp2_with fail
  refine (clean_any [47, 46, 46] (by decide) _).mono ?_
  rintro e w8 ⟨rfl, hb⟩
  rw [kn8]
  unfold strR
  dsimp only
  have hB := hB.trans (hb.mono hB.size)
  clear hb
  go_wp2_with fail
  refine (clean_any [97] (by decide) _).mono ?_
  rintro e w9 ⟨rfl, hb⟩
  rw [kn9]
  unfold strR
  dsimp only
  have hB := hB.trans (hb.mono hB.size)
  clear hb
  go_wp2_with fail
  refine (segs_any [47] (by decide) _ (HM.out.below hB)).mono ?_
  rintro e w10 ⟨hp, hb⟩
  rw [kn10] at hp
  obtain ⟨v, rfl, hrow⟩ := hp
  have H1 := Lib.hid (strs_of_own hrow)
  obtain ⟨qH1, dH1, rfl⟩ := own_slice hrow
  clear hrow
  have hB := hB.trans (hb.mono hB.size)
  clear hb
  go_wp2_with fail
  refine (segs_any [47, 97, 47, 98] (by decide) _ (HM.out.below hB)).mono ?_
  rintro e w11 ⟨hp, hb⟩
  rw [kn11] at hp
  obtain ⟨v, rfl, hrow⟩ := hp
  have H2 := Lib.hid (strs_of_own hrow)
  obtain ⟨qH2, dH2, rfl⟩ := own_slice hrow
  clear hrow
  have H1 := Lib.hid (H1.out.below hb (Nat.le_refl _))
  have hB := hB.trans (hb.mono hB.size)
  clear hb
  go_wp2_with fail
  refine (segs_any [47, 97, 47, 98, 47] (by decide) _ (HM.out.below hB)).mono ?_
  rintro e w12 ⟨hp, hb⟩
  rw [kn12] at hp
  obtain ⟨v, rfl, hrow⟩ := hp
  have H3 := Lib.hid (strs_of_own hrow)
  obtain ⟨qH3, dH3, rfl⟩ := own_slice hrow
  clear hrow
  have H1 := Lib.hid (H1.out.below hb (Nat.le_refl _))
  have H2 := Lib.hid (H2.out.below hb (Nat.le_refl _))
  have hB := hB.trans (hb.mono hB.size)
  clear hb
  go_wp2_with fail
  refine (lclean_ok [47, 97, 47, 98, 47, 46] [47, 97, 47, 98, 47] (by decide) kn13 _).mono ?_
  rintro e w13 ⟨rfl, hb⟩
  have H2 := Lib.hid (H2.out.below hb (Nat.le_refl _))
  have H3 := Lib.hid (H3.out.below hb (Nat.le_refl _))
  have hB := hB.trans (hb.mono hB.size)
  clear hb
  go_wp2_with fail
  refine (lclean_ok [47, 97, 47, 98, 47, 46, 46] [47, 97, 47] (by decide) kn14 _).mono ?_
  rintro e w14 ⟨rfl, hb⟩
  have H2 := Lib.hid (H2.out.below hb (Nat.le_refl _))
  have H3 := Lib.hid (H3.out.below hb (Nat.le_refl _))
  have hB := hB.trans (hb.mono hB.size)
  clear hb
  go_wp2_with fail
  refine (lclean_ok [47, 47] [47] (by decide) kn15 _).mono ?_
  rintro e w15 ⟨rfl, hb⟩
  have H2 := Lib.hid (H2.out.below hb (Nat.le_refl _))
  have H3 := Lib.hid (H3.out.below hb (Nat.le_refl _))
  have hB := hB.trans (hb.mono hB.size)
  clear hb
  have hba : Below w15.heap.size w15 (w15.alloc (.cells #[.string ⟨#[97]⟩, .string ⟨#[98]⟩] 9)) := (Below.refl _ _).alloc (Nat.le_refl _) _
  have hB := hB.trans (hba.mono hB.size)
  have H2 := Lib.hid (H2.out.below hba (Nat.le_refl _))
  have H3 := Lib.hid (H3.out.below hba (Nat.le_refl _))
  clear hba
  go_wp2_with fail
  refine (sameTexts_any [[97], [98]] (by decide) _ _ _ H2.out (strs_lit w15 9 [[97], [98]])).mono ?_
  rintro e w16 ⟨rfl, hb⟩
  have H2 := Lib.hid (H2.out.below hb (Nat.le_refl _))
  have H3 := Lib.hid (H3.out.below hb (Nat.le_refl _))
  have hB := hB.trans (hb.mono hB.size)
  clear hb
  go_wp2_with fail
  refine (sameTexts_any [[97], [98]] (by decide) _ _ _ H3.out H2.out).mono ?_
  rintro e w17 ⟨rfl, hb⟩
  have hB := hB.trans (hb.mono hB.size)
  clear hb
  go_wp2_with fail
  refine (under_any [47, 97] [47, 97, 47] (by decide) (by decide) _ (HM.out.below hB)).mono ?_
  rintro e w18 ⟨rfl, hb⟩
  rw [kn16]
  have hB := hB.trans (hb.mono hB.size)
  clear hb
  go_wp2_with fail
  refine (parent_any [47] (by decide) _ (HM.out.below hB)).mono ?_
  rintro e w19 ⟨rfl, hb⟩
  rw [kn17]
  unfold strR
  dsimp only
  have hB := hB.trans (hb.mono hB.size)
  clear hb
  go_wp2_with fail
  refine (join_any [47, 97] [46, 46] (by decide) (by decide) _ (HM.out.below hB)).mono ?_
  rintro e w20 ⟨rfl, hb⟩
  rw [kn18]
  unfold strR
  dsimp only
  have hB := hB.trans (hb.mono hB.size)
  clear hb
  go_wp2_with fail
  refine (lunder_ok [47, 97] [47, 97] true (by decide) (by decide) kn19 _ (HM.out.below hB)).mono ?_
  rintro e w21 ⟨rfl, hb⟩
  have hB := hB.trans (hb.mono hB.size)
  clear hb
  go_wp2_with fail
  refine (lunder_ok [47, 97, 47] [47, 97] true (by decide) (by decide) kn20 _ (HM.out.below hB)).mono ?_
  rintro e w22 ⟨rfl, hb⟩
  have hB := hB.trans (hb.mono hB.size)
  clear hb
  go_wp2_with fail
  refine (lunder_ok [47, 98] [47] true (by decide) (by decide) kn21 _ (HM.out.below hB)).mono ?_
  rintro e w23 ⟨rfl, hb⟩
  have hB := hB.trans (hb.mono hB.size)
  clear hb
  go_wp2_with fail
  refine (lparent_ok [47, 97, 47, 98] [47, 97] (by decide) kn22 _ (HM.out.below hB)).mono ?_
  rintro e w24 ⟨rfl, hb⟩
  have hB := hB.trans (hb.mono hB.size)
  clear hb
  go_wp2_with fail
  refine (lparent_ok [47, 97, 47, 98, 47] [47, 97] (by decide) kn23 _ (HM.out.below hB)).mono ?_
  rintro e w25 ⟨rfl, hb⟩
  have hB := hB.trans (hb.mono hB.size)
  clear hb
  go_wp2_with fail
  refine (lparent_ok [47, 97] [47] (by decide) kn24 _ (HM.out.below hB)).mono ?_
  rintro e w26 ⟨rfl, hb⟩
  have hB := hB.trans (hb.mono hB.size)
  clear hb
  go_wp2_with fail
  refine (ljoin_ok [47, 97] [98] [47, 97, 47, 98] (by decide) (by decide) kn25 _ (HM.out.below hB)).mono ?_
  rintro e w27 ⟨rfl, hb⟩
  have hB := hB.trans (hb.mono hB.size)
  clear hb
  go_wp2_with fail
  refine (ljoin_ok [47] [98] [47, 98] (by decide) (by decide) kn26 _ (HM.out.below hB)).mono ?_
  rintro e w28 ⟨rfl, hb⟩
  have hB := hB.trans (hb.mono hB.size)
  clear hb
  go_wp2_with fail
  have hba : Below w28.heap.size w28 (w28.alloc (.cells #[.string ⟨#[97]⟩, .string ⟨#[98]⟩] 9)) := (Below.refl _ _).alloc (Nat.le_refl _) _
  have hB := hB.trans (hba.mono hB.size)
  clear hba
  refine (lmake_ok [[97], [98]] true [47, 97, 47, 98, 47] (by decide) (by decide) kn27 _ _ (strs_lit w28 9 [[97], [98]])).mono ?_
  rintro e w29 ⟨rfl, hb⟩
  have hB := hB.trans (hb.mono hB.size)
  clear hb
  go_wp2_with fail
  refine (lmake_ok [] true [47] (by decide) (fun _ h => by cases h) kn28 _ _ (StrsAt.nil _)).mono ?_
  rintro e w30 ⟨rfl, hb⟩
  have hB := hB.trans (hb.mono hB.size)
  clear hb
  go_wp2_with fail
  refine (ltext_ok [47, 97, 47, 98, 47] _).mono ?_
  rintro e w31 ⟨rfl, rfl⟩
  go_wp2_with fail
  refine (ltext_ok [47] _).mono ?_
  rintro e w32 ⟨rfl, rfl⟩
  go_wp2_with fail
  refine (lcommon_ok [47, 97, 47, 98, 47, 99] [47, 97, 47, 98, 47, 100] [47, 97, 47, 98] (by decide) (by decide) kn29 _ (HM.out.below hB)).mono ?_
  rintro e w33 ⟨rfl, hb⟩
  have hB := hB.trans (hb.mono hB.size)
  clear hb
  go_wp2_with fail
  refine (lcommon_ok [47, 97, 47] [47, 97, 47, 98] [47, 97] (by decide) (by decide) kn30 _ (HM.out.below hB)).mono ?_
  rintro e w34 ⟨rfl, hb⟩
  have hB := hB.trans (hb.mono hB.size)
  clear hb
  go_wp2_with fail
  refine (lcommon_ok [47, 97] [47, 98] [47] (by decide) (by decide) kn31 _ (HM.out.below hB)).mono ?_
  rintro e w35 ⟨rfl, hb⟩
  have hB := hB.trans (hb.mono hB.size)
  clear hb
  go_wp2_with fail
  refine (awake_any _ (HM.out.below hB)).mono ?_
  rintro e w36 ⟨rfl, hb⟩
  have hB := hB.trans (hb.mono hB.size)
  clear hb
  go_wp2_with fail
  go_ret
  exact ⟨rfl, hB⟩
end Go.Proofs.YtkchhgpebleioaaDoor
