/-
  The law DotsCommon, for every argument. The library's variable of the search must hold a number.
-/
import Derived.Test.YtkchhgpebleioaaDoorDLaw4
namespace Go.Proofs.YtkchhgpebleioaaDoor
open Go.RowKit
set_option maxRecDepth 100000 in
set_option maxHeartbeats 16000000 in
theorem dotsCommon_any (p1 : Option Addr) (n1 c1 : Nat) (f1 : Nat → Int) (p2 : Option Addr) (n2 c2 : Nat) (f2 : Nat → Int) (o1 o2 : Bool) (w : World) (hM : ML w) (hC1 : CellsIn w p1 (n1 * 1) (intC f1)) (hC2 : CellsIn w p2 (n2 * 1) (intC f2)) :
    Calls Tryd.prog 9 #[.slice p1 n1 c1, .slice p2 n2 c2, .bool o1, .bool o2] w fun e w' => e = .returned (.bool true) ∧ Below w.heap.size w w' := by
  have HM := Lib.hid hM
  have HC1 := Lib.hid hC1
  have HC2 := Lib.hid hC2
  have hmX := fun W (h : CellsIn W p1 (n1 * 1) (intC f1)) => made_any p1 n1 c1 f1 W h
  have hmY := fun W (h : CellsIn W p2 (n2 * 1) (intC f2)) => made_any p2 n2 c2 f2 W h
  have hNX := made_names n1 f1
  have hSX := made_short n1 f1
  have hlX := made_len n1 f1
  have hNY := made_names n2 f2
  have hSY := made_short n2 f2
  have hlY := made_len n2 f2
  obtain ⟨X, hX⟩ : ∃ X, madeL n1 f1 = X := ⟨_, rfl⟩
  obtain ⟨Y, hY⟩ : ∃ Y, madeL n2 f2 = Y := ⟨_, rfl⟩
  rw [hX] at hmX hNX hSX hlX
  rw [hY] at hmY hNY hSY hlY
  have hX8 : X.length ≤ 8 := by omega
  have hY8 : Y.length ≤ 8 := by omega
  have hA := put_small (o := o1) (by omega) hSX
  have hB := put_small (o := o2) (by omega) hSY
  have MKX := Lib.hid (fun v W (h : StrsAt W v X) => lmake_ok X o1 _ (by omega) (fun z hz => by have := hSX z hz; omega) (make_names hNX o1 hA) v W h)
  have MKY := Lib.hid (fun v W (h : StrsAt W v Y) => lmake_ok Y o2 _ (by omega) (fun z hz => by have := hSY z hz; omega) (make_names hNY o2 hB) v W h)
  have hcm1 := fun W (h : ML W) => common_any (putL X o1) (putL Y o2) (by omega) (by omega) W h
  rw [common_put hNX hNY o1 o2 hA hB] at hcm1
  have hcm2 := fun W (h : ML W) => common_any (putL Y o2) (putL X o1) (by omega) (by omega) W h
  rw [common_put hNY hNX o2 o1 hB hA, com_sym X Y, ← com_take X Y] at hcm2
  obtain ⟨m, hm⟩ : ∃ m, comN X Y = m := ⟨_, rfl⟩
  have hmX2 : m ≤ X.length := by rw [← hm]; exact (comN_le X Y).1
  have htake := com_take X Y
  have hmax := com_max X Y
  rw [hm] at hcm1 hcm2 htake hmax
  have hNC := com_names hNX m
  have hSC : ∀ z ∈ X.take m, z.length ≤ 3 := fun z hz => hSX z (List.take_subset _ _ hz)
  have hC := put_small (L := X.take m) (o := false) (by rw [List.length_take]; omega) hSC
  have hsg := fun W (h : ML W) => segs_any (putL (X.take m) false) (by omega) W h
  rw [segs_names_put hNC false hC] at hsg
  have U1 := Lib.hid (fun W (h : ML W) => lunder_ok (putL X o1) (putL (X.take m) false) true (by omega) (by omega) (by rw [under_put_R hNX hNC o1 hA hC, prefix_take]) W h)
  have U2 := Lib.hid (fun W (h : ML W) => lunder_ok (putL Y o2) (putL (X.take m) false) true (by omega) (by omega) (by rw [under_put_R hNY hNC o2 hB hC, htake, prefix_take]) W h)
  -- what lies below, if X has more segments
  have hbelow : ∀ h : m < X.length, (∀ W, ML W → Calls Tryd.prog 17 #[.string ⟨(putL (X.take m) false).toArray⟩, .string ⟨(X[m]).toArray⟩] W fun e w' => e = .returned (.tuple #[.string ⟨(putL (X.take (m + 1)) false).toArray⟩, .int .i64 0]) ∧ Below W.heap.size W w') ∧
      (∀ W, ML W → Calls Tryd.prog 15 #[.string ⟨(putL X o1).toArray⟩, .string ⟨(putL (X.take (m + 1)) false).toArray⟩] W fun e w' => e = .returned (.tuple #[.bool true, .int .i64 0]) ∧ Below W.heap.size W w') ∧
      (∀ W, ML W → Calls Tryd.prog 15 #[.string ⟨(putL Y o2).toArray⟩, .string ⟨(putL (X.take (m + 1)) false).toArray⟩] W fun e w' => e = .returned (.tuple #[.bool false, .int .i64 0]) ∧ Below W.heap.size W w') := fun h => by
    have hz := hSX _ (List.getElem_mem h)
    have hNE := com_names hNX (m + 1)
    have hE := put_small (L := X.take (m + 1)) (o := false) (by rw [List.length_take]; omega) (fun z hz => hSX z (List.take_subset _ _ hz))
    have htk := List.take_succ_eq_append_getElem h
    refine ⟨fun W hW => ?_, fun W hW => ?_, fun W hW => ?_⟩
    · have := join_any (putL (X.take m) false) X[m] (by omega) (by omega) W hW
      rw [join_put hNC (hNX _ (List.getElem_mem h)) hC (by rw [← htk]; exact hE), ← htk] at this
      exact this
    · have := under_any (putL X o1) (putL (X.take (m + 1)) false) (by omega) (by omega) W hW
      rw [under_put_R hNX hNE o1 hA hE, prefix_take] at this
      exact this
    · have := under_any (putL Y o2) (putL (X.take (m + 1)) false) (by omega) (by omega) W hW
      rw [under_put_R hNY hNE o2 hB hE, hmax h] at this
      exact this
  have HBEL := Lib.hid hbelow
  obtain ⟨A, hAA⟩ : ∃ A, putL X o1 = A := ⟨_, rfl⟩
  obtain ⟨B, hBB⟩ : ∃ B, putL Y o2 = B := ⟨_, rfl⟩
  obtain ⟨C, hCC⟩ : ∃ C, putL (X.take m) false = C := ⟨_, rfl⟩
  rw [hAA] at MKX hcm1 hcm2 U1 HBEL
  rw [hBB] at MKY hcm1 hcm2 U2 HBEL
  rw [hCC] at hcm1 hcm2 hsg U1 U2 HBEL
  have CM1 := Lib.hid hcm1
  have CM2 := Lib.hid hcm2
  have SG := Lib.hid hsg
  have MDX := Lib.hid hmX
  have MDY := Lib.hid hmY
  have HX8 := Lib.hid hX8
  have HMX := Lib.hid hmX2
  clear hM hC1 hC2 hmX hmY hNX hSX hlX hNY hSY hlY hX hY hX8 hY8 hA hB hcm1 hcm2 hm hmX2 htake hmax hNC hSC hC hsg hbelow hAA hBB hCC
  go_enter Tryd.func9, Tryd.ntmps9
  go_wp2_with fail
  refine (MDX.out _ HC1.out).mono ?_
  rintro e w1 ⟨v1, rfl, hrow, hB⟩
  have HST := Lib.hid (strs_of_own hrow)
  obtain ⟨q1, d1, rfl⟩ := own_slice hrow
  clear hrow
  go_wp2_with fail
  refine (MKX.out _ _ HST.out).mono ?_
  rintro e w2 ⟨rfl, hb⟩
  have hB := hB.trans (hb.mono hB.size)
  clear hb
  go_wp2_with fail
  refine (MDY.out _ (HC2.out.below hB (Nat.le_refl _))).mono ?_
  rintro e w3 ⟨v2, rfl, hrow, hb⟩
  have hB := hB.trans (hb.mono hB.size)
  have HSTY := Lib.hid (strs_of_own hrow)
  obtain ⟨q2, d2, rfl⟩ := own_slice hrow
  clear hrow hb
  go_wp2_with fail
  refine (MKY.out _ _ HSTY.out).mono ?_
  rintro e w4 ⟨rfl, hb⟩
  have hB := hB.trans (hb.mono hB.size)
  clear hb
  go_wp2_with fail
  refine (CM1.out _ (HM.out.below hB)).mono ?_
  rintro e w5 ⟨rfl, hb⟩
  unfold strR
  dsimp only
  have hB := hB.trans (hb.mono hB.size)
  clear hb
  go_wp2_with fail
  refine (CM2.out _ (HM.out.below hB)).mono ?_
  rintro e w6 ⟨rfl, hb⟩
  unfold strR
  dsimp only
  have hB := hB.trans (hb.mono hB.size)
  clear hb
  go_wp2_with fail
  refine (SG.out _ (HM.out.below hB)).mono ?_
  rintro e w7 ⟨⟨v7, rfl, hrow⟩, hb⟩
  rw [List.length_take, Nat.min_eq_left HMX.out] at hrow
  obtain ⟨q7, d7, rfl⟩ := own_slice hrow
  have hB := hB.trans (hb.mono hB.size)
  clear hb hrow
  go_wp2_with fail
  refine (U1.out _ (HM.out.below hB)).mono ?_
  rintro e w8 ⟨rfl, hb⟩
  have hB := hB.trans (hb.mono hB.size)
  clear hb
  go_wp2_with fail
  refine (U2.out _ (HM.out.below hB)).mono ?_
  rintro e w9 ⟨rfl, hb⟩
  have hB := hB.trans (hb.mono hB.size)
  clear hb
  go_wp2_with fail
  refine (MDX.out _ (HC1.out.below hB (Nat.le_refl _))).mono ?_
  rintro e w10 ⟨v10, rfl, hrow, hb⟩
  have hB := hB.trans (hb.mono hB.size)
  have HSTX := Lib.hid (strs_of_own hrow)
  obtain ⟨q10, d10, rfl⟩ := own_slice hrow
  clear hrow hb
  have hX8 := HX8.out
  by_cases hlt : m < X.length
  · obtain ⟨b1, b2, b3⟩ := HBEL.out hlt
    have e1 : decide ((m : Int) < (X.length : Int)) = true := decide_eq_true (by omega)
    have hbi : (m : Int) < (X.length : Int) := by omega
    obtain ⟨pz, cz, ez, hz⟩ := id HSTX.out
    injection ez with ez1 ez2 ez3
    subst ez1 ez3
    obtain ⟨b, off, rfl, hbl, hcell⟩ := str_cell hz (Below.refl _ _) hlt
    obtain ⟨z, hzz⟩ : ∃ z, X[m] = z := ⟨_, rfl⟩
    obtain ⟨E, hEE⟩ : ∃ E, putL (X.take (m + 1)) false = E := ⟨_, rfl⟩
    rw [hzz] at b1 hcell
    rw [hEE] at b1 b2 b3
    have B1 := Lib.hid b1
    have B2 := Lib.hid b2
    have B3 := Lib.hid b3
    clear b1 b2 b3 hz ez2 hzz hEE HBEL
    go_wp2_with fail
    refine (B1.out _ (HM.out.below hB)).mono ?_
    rintro e w11 ⟨rfl, hb⟩
    have hB := hB.trans (hb.mono hB.size)
    clear hb hcell
    go_wp2_with fail
    refine (B2.out _ (HM.out.below hB)).mono ?_
    rintro e w12 ⟨rfl, hb⟩
    have hB := hB.trans (hb.mono hB.size)
    clear hb
    go_wp2_with fail
    refine (B3.out _ (HM.out.below hB)).mono ?_
    rintro e w13 ⟨rfl, hb⟩
    have hB := hB.trans (hb.mono hB.size)
    clear hb
    go_wp2_with fail
    refine (awake_any _ (HM.out.below hB)).mono ?_
    rintro e w14 ⟨rfl, hb⟩
    have hB := hB.trans (hb.mono hB.size)
    clear hb
    go_wp2_with fail
    go_ret
    exact ⟨rfl, hB⟩
  · have hme := HMX.out
    have e1 : decide ((m : Int) < (X.length : Int)) = false := decide_eq_false (by omega)
    have e2 : ((m : Int) == (X.length : Int)) = true := by rw [beq_iff_eq]; omega
    clear hme HBEL
    go_wp2_with fail
    refine (awake_any _ (HM.out.below hB)).mono ?_
    rintro e w11 ⟨rfl, hb⟩
    have hB := hB.trans (hb.mono hB.size)
    clear hb
    go_wp2_with fail
    go_ret
    exact ⟨rfl, hB⟩
end Go.Proofs.YtkchhgpebleioaaDoor
