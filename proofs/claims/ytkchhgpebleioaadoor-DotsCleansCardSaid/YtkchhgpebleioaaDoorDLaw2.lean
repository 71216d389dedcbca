/-
  The laws DotsPaths, DotsTwo and DotsCleans, for every text. The library's variable of the search must hold a number.
-/
import Derived.Test.YtkchhgpebleioaaDoorDLaw1
namespace Go.Proofs.YtkchhgpebleioaaDoor
open Go.RowKit
theorem strR_form (R : Nat ⊕ List UInt8) : ∃ (T : List UInt8) (x : Int), strR R = .tuple #[.string ⟨T.toArray⟩, .int .i64 x] := by
  cases R with
  | inl e => exact ⟨[], (e : Int), rfl⟩
  | inr t => exact ⟨t, 0, rfl⟩
theorem underR_form (p d : List UInt8) : ∃ (b : Bool) (x : Int), underR p d = .tuple #[.bool b, .int .i64 x] := by
  unfold underR
  split
  · exact ⟨_, _, rfl⟩
  · exact ⟨_, _, rfl⟩
/-- What Segments hands back, as a list to read and an error. -/
theorem list_form (R : Nat ⊕ List (List UInt8)) : ∃ (L : List (List UInt8)) (x : Int), (∀ n, (∀ y, R = .inr y → y.length ≤ n) → L.length ≤ n) ∧ ∀ base e w, ListPost base R e w → ∃ v, e = .returned (.tuple #[v, .int .i64 x]) ∧ StrsAt w v L := by
  cases R with
  | inl e => exact ⟨[], (e : Int), fun n _ => Nat.zero_le _, fun base e w h => ⟨_, h, StrsAt.nil _⟩⟩
  | inr L => exact ⟨L, 0, fun n h => h L rfl, fun base e w ⟨v, h1, h2⟩ => ⟨v, h1, strs_of_own h2⟩⟩
set_option maxRecDepth 100000 in
set_option maxHeartbeats 8000000 in
theorem dotsPaths_any (p : List UInt8) (w : World) (hM : ML w) :
    Calls Tryd.prog 4 #[.string ⟨p.toArray⟩] w fun e w' => e = .returned (.bool true) ∧ Below w.heap.size w w' := by
  have HM := Lib.hid hM
  clear hM
  by_cases h1 : 400 < p.length
  · have d1 : decide ((400 : Int) < (p.length : Int)) = true := decide_eq_true (by omega)
    have d1n : decide (400 < p.length) = true := decide_eq_true h1
    clear h1
    go_enter Tryd.func4, Tryd.ntmps4
    go_wp2_with fail
    refine (awake_any _ HM.out).mono ?_
    rintro e w1 ⟨rfl, hB⟩
    go_wp2_with fail
    go_ret
    exact ⟨rfl, hB⟩
  · have d1 : decide ((400 : Int) < (p.length : Int)) = false := decide_eq_false (by omega)
    have d1n : decide (400 < p.length) = false := decide_eq_false h1
    have hc1 := fun W => clean_any p (by omega) W
    have hc2 := fun W => refClean_any p (by omega) W
    have hs1 := fun W (h : ML W) => segs_any p (by omega) W h
    have hs2 := fun W => refSegments_any p (by omega) W
    have hn1 := fun W (h : ML W) => normal_any p (by omega) W h
    have hn2 := fun W => refNormal_any p (by omega) W
    have hp1 := fun W (h : ML W) => parent_any p (by omega) W h
    have hp2 := fun W => refParent_any p (by omega) W
    obtain ⟨T, x, hT⟩ := strR_form (cleanR p)
    obtain ⟨T2, x2, hT2⟩ := strR_form (parentR p)
    have hLn : ∀ y, segsR p = .inr y → y.length ≤ 1000 := fun y hy => by
      unfold segsR at hy
      split at hy
      · injection hy with hy
        have := segs_len p
        rw [← hy]
        omega
      · cases hy
    obtain ⟨L, x3, hL0, hL⟩ := list_form (segsR p)
    have hLl := hL0 1000 hLn
    obtain ⟨nb, hnb⟩ : ∃ b, normB p = b := ⟨_, rfl⟩
    rw [hT] at hc1 hc2
    rw [hT2] at hp1 hp2
    rw [hnb] at hn1 hn2
    have C1 := Lib.hid hc1
    have C2 := Lib.hid hc2
    have S1 := Lib.hid hs1
    have S2 := Lib.hid hs2
    have N1 := Lib.hid hn1
    have N2 := Lib.hid hn2
    have P1 := Lib.hid hp1
    have P2 := Lib.hid hp2
    have HL := Lib.hid hL
    clear hc1 hc2 hs1 hs2 hn1 hn2 hp1 hp2 hT hT2 hL0 hL hLn hnb h1
    go_enter Tryd.func4, Tryd.ntmps4
    go_wp2_with fail
    refine (C1.out _).mono ?_
    rintro e w1 ⟨rfl, hB⟩
    go_wp2_with fail
    refine (C2.out _).mono ?_
    rintro e w2 ⟨rfl, hb⟩
    have hB := hB.trans (hb.mono hB.size)
    clear hb
    go_wp2_with fail
    refine (S1.out _ (HM.out.below hB)).mono ?_
    rintro e w3 ⟨hp, hb⟩
    obtain ⟨v3, rfl, hv3⟩ := HL.out _ _ _ hp
    have hB := hB.trans (hb.mono hB.size)
    have HV3 := Lib.hid hv3
    obtain ⟨p3, c3, rfl, -⟩ := hv3
    clear hb hp
    go_wp2_with fail
    refine (S2.out _).mono ?_
    rintro e w4 ⟨hp, hb⟩
    obtain ⟨v4, rfl, hv4⟩ := HL.out _ _ _ hp
    have hB := hB.trans (hb.mono hB.size)
    have HV3 := Lib.hid (HV3.out.below hb (Nat.le_refl _))
    have HV4 := Lib.hid hv4
    obtain ⟨p4, c4, rfl, -⟩ := hv4
    clear hb hp
    go_wp2_with fail
    refine (N1.out _ (HM.out.below hB)).mono ?_
    rintro e w5 ⟨rfl, hb⟩
    have hB := hB.trans (hb.mono hB.size)
    have HV3 := Lib.hid (HV3.out.below hb (Nat.le_refl _))
    have HV4 := Lib.hid (HV4.out.below hb (Nat.le_refl _))
    clear hb
    go_wp2_with fail
    refine (N2.out _).mono ?_
    rintro e w6 ⟨rfl, hb⟩
    have hB := hB.trans (hb.mono hB.size)
    have HV3 := Lib.hid (HV3.out.below hb (Nat.le_refl _))
    have HV4 := Lib.hid (HV4.out.below hb (Nat.le_refl _))
    clear hb
    have e1 : (nb != nb) = false := by cases nb <;> rfl
    go_wp2_with fail
    refine (sameTexts_any L (by omega) _ _ _ HV3.out HV4.out).mono ?_
    rintro e w7 ⟨rfl, hb⟩
    have hB := hB.trans (hb.mono hB.size)
    clear hb
    go_wp2_with fail
    refine (P1.out _ (HM.out.below hB)).mono ?_
    rintro e w8 ⟨rfl, hb⟩
    have hB := hB.trans (hb.mono hB.size)
    clear hb
    go_wp2_with fail
    refine (P2.out _).mono ?_
    rintro e w9 ⟨rfl, hb⟩
    have hB := hB.trans (hb.mono hB.size)
    clear hb
    go_wp2_with fail
    refine (awake_any _ (HM.out.below hB)).mono ?_
    rintro e w10 ⟨rfl, hb⟩
    have hB := hB.trans (hb.mono hB.size)
    clear hb
    go_wp2_with fail
    go_ret
    exact ⟨rfl, hB⟩
set_option maxRecDepth 100000 in
set_option maxHeartbeats 8000000 in
theorem dotsTwo_any (p q : List UInt8) (w : World) (hM : ML w) :
    Calls Tryd.prog 5 #[.string ⟨p.toArray⟩, .string ⟨q.toArray⟩] w fun e w' => e = .returned (.bool true) ∧ Below w.heap.size w w' := by
  have HM := Lib.hid hM
  clear hM
  by_cases h1 : 400 < p.length
  · have d1 : decide ((400 : Int) < (p.length : Int)) = true := decide_eq_true (by omega)
    have d1n : decide (400 < p.length) = true := decide_eq_true h1
    clear h1
    go_enter Tryd.func5, Tryd.ntmps5
    go_wp2_with fail
    refine (awake_any _ HM.out).mono ?_
    rintro e w1 ⟨rfl, hB⟩
    go_wp2_with fail
    go_ret
    exact ⟨rfl, hB⟩
  · have d1 : decide ((400 : Int) < (p.length : Int)) = false := decide_eq_false (by omega)
    have d1n : decide (400 < p.length) = false := decide_eq_false h1
    by_cases h2 : 400 < q.length
    · have d2 : decide ((400 : Int) < (q.length : Int)) = true := decide_eq_true (by omega)
      have d2n : decide (400 < q.length) = true := decide_eq_true h2
      clear h1 h2
      go_enter Tryd.func5, Tryd.ntmps5
      go_wp2_with fail
      refine (awake_any _ HM.out).mono ?_
      rintro e w1 ⟨rfl, hB⟩
      go_wp2_with fail
      go_ret
      exact ⟨rfl, hB⟩
    · have d2 : decide ((400 : Int) < (q.length : Int)) = false := decide_eq_false (by omega)
      have d2n : decide (400 < q.length) = false := decide_eq_false h2
      have hu1 := fun W (h : ML W) => under_any p q (by omega) (by omega) W h
      have hu2 := fun W => refUnder_any p q (by omega) (by omega) W
      have hj1 := fun W (h : ML W) => join_any p q (by omega) (by omega) W h
      have hj2 := fun W => refJoin_any p q (by omega) (by omega) W
      have hc1 := fun W (h : ML W) => common_any p q (by omega) (by omega) W h
      have hc2 := fun W => refCommon_any p q (by omega) (by omega) W
      obtain ⟨b, x1, hu⟩ := underR_form p q
      obtain ⟨T2, x2, hT2⟩ := strR_form (joinR p q)
      obtain ⟨T3, x3, hT3⟩ := strR_form (commonR p q)
      rw [hu] at hu1 hu2
      rw [hT2] at hj1 hj2
      rw [hT3] at hc1 hc2
      have U1 := Lib.hid hu1
      have U2 := Lib.hid hu2
      have J1 := Lib.hid hj1
      have J2 := Lib.hid hj2
      have C1 := Lib.hid hc1
      have C2 := Lib.hid hc2
      have e1 : (b != b) = false := by cases b <;> rfl
      clear hu1 hu2 hj1 hj2 hc1 hc2 hu hT2 hT3 h1 h2
      go_enter Tryd.func5, Tryd.ntmps5
      go_wp2_with fail
      refine (U1.out _ HM.out).mono ?_
      rintro e w1 ⟨rfl, hB⟩
      go_wp2_with fail
      refine (U2.out _).mono ?_
      rintro e w2 ⟨rfl, hb⟩
      have hB := hB.trans (hb.mono hB.size)
      clear hb
      go_wp2_with fail
      refine (J1.out _ (HM.out.below hB)).mono ?_
      rintro e w3 ⟨rfl, hb⟩
      have hB := hB.trans (hb.mono hB.size)
      clear hb
      go_wp2_with fail
      refine (J2.out _).mono ?_
      rintro e w4 ⟨rfl, hb⟩
      have hB := hB.trans (hb.mono hB.size)
      clear hb
      go_wp2_with fail
      refine (C1.out _ (HM.out.below hB)).mono ?_
      rintro e w5 ⟨rfl, hb⟩
      have hB := hB.trans (hb.mono hB.size)
      clear hb
      go_wp2_with fail
      refine (C2.out _).mono ?_
      rintro e w6 ⟨rfl, hb⟩
      have hB := hB.trans (hb.mono hB.size)
      clear hb
      go_wp2_with fail
      refine (awake_any _ (HM.out.below hB)).mono ?_
      rintro e w7 ⟨rfl, hb⟩
      have hB := hB.trans (hb.mono hB.size)
      clear hb
      go_wp2_with fail
      go_ret
      exact ⟨rfl, hB⟩
end Go.Proofs.YtkchhgpebleioaaDoor
