/-
  The laws TargetReads and TargetWrites: what the program returns is what the reference returns.
-/
import Derived.Test.YtjinedeelkdgiaaDoorHL0
namespace Go.Proofs.YtjinedeelkdgiaaDoor
open Go.RowKit
attribute [local go_sem] eq_sets w_0 w_1 w_2 w_3
set_option maxRecDepth 100000 in
set_option maxHeartbeats 8000000 in
theorem reads_any (s : List UInt8) (n : Int) (w : World) (hT : TT w) :
    Calls Tryd.prog 3 #[.string ⟨s.toArray⟩, .int .i64 n] w fun e w' => e = .returned (.bool true) ∧ Below w.heap.size w w' := by
  have HAW := Lib.hid fun W h => awake_any W h
  by_cases hl : 1200 < s.length
  · have a1 : decide ((1200 : Int) < (s.length : Int)) = true := decide_eq_true (by omega)
    clear hl
    go_enter Tryd.func3, Tryd.ntmps3
    go_wp2_with fail
    refine (HAW.out _ hT).mono ?_
    rintro e w1 ⟨rfl, hb1⟩
    go_wp2_with fail
    go_ret
    exact ⟨rfl, hb1⟩
  have a1 : decide ((1200 : Int) < (s.length : Int)) = false := decide_eq_false (by omega)
  have H1 := Lib.hid fun W (h : TT W) => split_any s (by omega) W h.v
  have H2 := Lib.hid fun W => refSplit_any s (by omega) W
  have H3 := Lib.hid fun W (h : TT W) => parse_any s (by omega) n W h.v
  have H4 := Lib.hid fun W => refParse_any s (by omega) n W
  have H5 := Lib.hid fun W (h : TT W) => why_any s (by omega) n W h.v
  have H6 := Lib.hid fun W => refWhy_any s (by omega) n W
  obtain ⟨⟨p, q, e⟩, hx⟩ : ∃ x, splP (splR s) = x := ⟨_, rfl⟩
  rw [hx] at H1 H2
  obtain ⟨⟨a, b, f, st⟩, hy⟩ : ∃ x, rdP (rdR s n) = x := ⟨_, rfl⟩
  rw [hy] at H3 H4 H5 H6
  unfold splW at H1 H2
  unfold parseW at H3 H4
  unfold whyW at H5 H6
  dsimp only at H1 H2 H3 H4 H5 H6
  clear hx hy hl
  have hB0 : Below w.heap.size w w := Below.refl _ _
  go_enter Tryd.func3, Tryd.ntmps3
  go_wp2_with fail
  refine (H1.out _ (hT.below hB0)).mono ?_
  rintro r1 w1 ⟨rfl, hb1⟩
  have hB1 := hB0.trans (hb1.mono hB0.size)
  clear hb1 hB0 H1
  go_wp2_with fail
  refine (H2.out _).mono ?_
  rintro r2 w2 ⟨rfl, hb2⟩
  have hB2 := hB1.trans (hb2.mono hB1.size)
  clear hb2 hB1 H2
  go_wp2_with fail
  refine (H3.out _ (hT.below hB2)).mono ?_
  rintro r3 w3 ⟨rfl, hb3⟩
  have hB3 := hB2.trans (hb3.mono hB2.size)
  clear hb3 hB2 H3
  go_wp2_with fail
  refine (H4.out _).mono ?_
  rintro r4 w4 ⟨rfl, hb4⟩
  have hB4 := hB3.trans (hb4.mono hB3.size)
  clear hb4 hB3 H4
  go_wp2_with fail
  refine (H5.out _ (hT.below hB4)).mono ?_
  rintro r5 w5 ⟨rfl, hb5⟩
  have hB5 := hB4.trans (hb5.mono hB4.size)
  clear hb5 hB4 H5
  go_wp2_with fail
  refine (H6.out _).mono ?_
  rintro r6 w6 ⟨rfl, hb6⟩
  have hB6 := hB5.trans (hb6.mono hB5.size)
  clear hb6 hB5 H6
  go_wp2_with fail
  refine (HAW.out _ (hT.below hB6)).mono ?_
  rintro r7 w7 ⟨rfl, hb7⟩
  have hB7 := hB6.trans (hb7.mono hB6.size)
  go_wp2_with fail
  go_ret
  exact ⟨rfl, hB7⟩
theorem strR_form (x : Nat ⊕ List UInt8) : ∃ (t : List UInt8) (e : Nat), strR x = .tuple #[.string ⟨t.toArray⟩, .int .i64 (e : Int)] := by
  cases x with
  | inl e => exact ⟨[], e, rfl⟩
  | inr t => exact ⟨t, 0, rfl⟩
set_option maxRecDepth 100000 in
set_option maxHeartbeats 8000000 in
theorem writes_any (p q s t : List UInt8) (w : World) (hT : TT w) :
    Calls Tryd.prog 4 #[.string ⟨p.toArray⟩, .string ⟨q.toArray⟩, .string ⟨s.toArray⟩, .string ⟨t.toArray⟩] w fun e w' => e = .returned (.bool true) ∧ Below w.heap.size w w' := by
  have HAW := Lib.hid fun W h => awake_any W h
  have dt : ∀ x : List UInt8, 1200 < x.length → decide ((1200 : Int) < (x.length : Int)) = true := fun x h => decide_eq_true (by omega)
  have df : ∀ x : List UInt8, ¬ 1200 < x.length → decide ((1200 : Int) < (x.length : Int)) = false := fun x h => decide_eq_false (by omega)
  by_cases l1 : 1200 < p.length
  · have a1 := dt p l1
    clear l1 dt df
    go_enter Tryd.func4, Tryd.ntmps4
    go_wp2_with fail
    refine (HAW.out _ hT).mono ?_
    rintro e w1 ⟨rfl, hb1⟩
    go_wp2_with fail
    go_ret
    exact ⟨rfl, hb1⟩
  have a1 := df p l1
  by_cases l2 : 1200 < q.length
  · have a2 := dt q l2
    clear l1 l2 dt df
    go_enter Tryd.func4, Tryd.ntmps4
    go_wp2_with fail
    refine (HAW.out _ hT).mono ?_
    rintro e w1 ⟨rfl, hb1⟩
    go_wp2_with fail
    go_ret
    exact ⟨rfl, hb1⟩
  have a2 := df q l2
  by_cases l3 : 1200 < s.length
  · have a3 := dt s l3
    clear l1 l2 l3 dt df
    go_enter Tryd.func4, Tryd.ntmps4
    go_wp2_with fail
    refine (HAW.out _ hT).mono ?_
    rintro e w1 ⟨rfl, hb1⟩
    go_wp2_with fail
    go_ret
    exact ⟨rfl, hb1⟩
  have a3 := df s l3
  by_cases l4 : 1200 < t.length
  · have a4 := dt t l4
    clear l1 l2 l3 l4 dt df
    go_enter Tryd.func4, Tryd.ntmps4
    go_wp2_with fail
    refine (HAW.out _ hT).mono ?_
    rintro e w1 ⟨rfl, hb1⟩
    go_wp2_with fail
    go_ret
    exact ⟨rfl, hb1⟩
  have a4 := df t l4
  have H1 := Lib.hid fun W (h : TT W) => text_any p q (by omega) (by omega) W h.m
  have H2 := Lib.hid fun W => refText_any p q (by omega) (by omega) W
  have H3 := Lib.hid fun W (h : TT W) => canonical_any s (by omega) W h.v
  have H4 := Lib.hid fun W => refCanonical_any s (by omega) W
  have H5 := Lib.hid fun W (h : TT W) => same_any s t (by omega) (by omega) W h.v
  have H6 := Lib.hid fun W => refSame_any s t (by omega) (by omega) W
  obtain ⟨x, e, hx⟩ := strR_form (txtR p q)
  rw [hx] at H1 H2
  obtain ⟨y, f, hy⟩ := strR_form (canR s)
  rw [hy] at H3 H4
  obtain ⟨⟨b, g⟩, hz⟩ : ∃ x, sameR s t = x := ⟨_, rfl⟩
  rw [hz] at H5 H6
  unfold boolW at H5 H6
  dsimp only at H5 H6
  obtain ⟨n0, n1, n2, n3, hn⟩ : ∃ y0 y1 y2 y3, Hid (charS = ⟨y0, y1, y2, y3⟩) := ⟨_, _, _, _, Lib.hid rfl⟩
  have H7 := Lib.hid (chars_any n0 n1 n2 n3 hn)
  have H8 : Hid (∀ W, Calls Tryd.prog 22 #[] W fun e w' => e = .returned (WSet.mk n0 n1 n2 n3).v ∧ Below W.heap.size W w') := Lib.hid fun W => by
    have h := refChars_any W
    rw [hn.out] at h
    exact h
  clear hx hy hz hn l1 l2 l3 l4 dt df
  have hB0 : Below w.heap.size w w := Below.refl _ _
  cases b
  all_goals
    go_enter Tryd.func4, Tryd.ntmps4
    go_wp2_with fail
    refine (H1.out _ (hT.below hB0)).mono ?_
    rintro r1 w1 ⟨rfl, hb1⟩
    have hB1 := hB0.trans (hb1.mono hB0.size)
    clear hb1 hB0 H1
    go_wp2_with fail
    refine (H2.out _).mono ?_
    rintro r2 w2 ⟨rfl, hb2⟩
    have hB2 := hB1.trans (hb2.mono hB1.size)
    clear hb2 hB1 H2
    go_wp2_with fail
    refine (H3.out _ (hT.below hB2)).mono ?_
    rintro r3 w3 ⟨rfl, hb3⟩
    have hB3 := hB2.trans (hb3.mono hB2.size)
    clear hb3 hB2 H3
    go_wp2_with fail
    refine (H4.out _).mono ?_
    rintro r4 w4 ⟨rfl, hb4⟩
    have hB4 := hB3.trans (hb4.mono hB3.size)
    clear hb4 hB3 H4
    go_wp2_with fail
    refine (H5.out _ (hT.below hB4)).mono ?_
    rintro r5 w5 ⟨rfl, hb5⟩
    have hB5 := hB4.trans (hb5.mono hB4.size)
    clear hb5 hB4 H5
    go_wp2_with fail
    refine (H6.out _).mono ?_
    rintro r6 w6 ⟨rfl, hb6⟩
    have hB6 := hB5.trans (hb6.mono hB5.size)
    clear hb6 hB5 H6
    go_wp2_with fail
    refine (H7.out _).mono ?_
    rintro r7 w7 ⟨rfl, hb7⟩
    have hB7 := hB6.trans (hb7.mono hB6.size)
    clear hb7 hB6 H7
    go_wp2_with fail
    refine (H8.out _).mono ?_
    rintro r8 w8 ⟨rfl, hb8⟩
    have hB8 := hB7.trans (hb8.mono hB7.size)
    clear hb8 hB7 H8
    go_wp2_with fail
    refine (HAW.out _ (hT.below hB8)).mono ?_
    rintro r9 w9 ⟨rfl, hb9⟩
    have hB9 := hB8.trans (hb9.mono hB8.size)
    go_wp2_with fail
    go_ret
    exact ⟨rfl, hB9⟩
end Go.Proofs.YtjinedeelkdgiaaDoor
