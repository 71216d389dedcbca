/-
  The laws RowReads, RowWrites and RowWords return true for every input.
-/
import Derived.Test.YtacceiloggnekaaDoorRHelp
import Derived.Test.YtacceiloggnekaaDoorRSame
import Derived.Test.YtacceiloggnekaaDoorROwn
import Derived.Test.YtacceiloggnekaaDoorRPure
namespace Go.Proofs.YtacceiloggnekaaDoor
open Go.RowKit
set_option maxRecDepth 100000 in
set_option maxHeartbeats 8000000 in
theorem reads_law (l : List UInt8) (w : World) (hT : VT w) :
    Calls Tryd.prog 3 #[.string ⟨l.toArray⟩] w fun e w' => e = .returned (.bool true) ∧ Below w.heap.size w w' := by
  have HVT := Lib.hid hT
  clear hT
  by_cases ha : (3000 < l.length ∧ l.length ≤ 20000) ∨ 20100 < l.length
  · by_cases h1 : 3000 < l.length
    · have d1 : decide ((3000 : Int) < (l.length : Int)) = true := decide_eq_true (by omega)
      have d1n : decide (3000 < l.length) = true := decide_eq_true h1
      by_cases h2 : l.length ≤ 20000
      · have d2 : decide ((l.length : Int) ≤ 20000) = true := decide_eq_true (by omega)
        have d2n : decide (l.length ≤ 20000) = true := decide_eq_true h2
        clear ha
        go_enter Tryd.func3, Tryd.ntmps3
        go_wp2_with fail
        refine (awake_any _ (VT.below (Hid.out (by with_reducible assumption)) (by repeat' (first | (with_reducible exact Below.refl _ _) | (with_reducible assumption) | (with_reducible exact Hid.out (by with_reducible assumption)) | (with_reducible refine below_one _ ?_) | (with_reducible refine Below.drew ?_))))).mono ?_
        rintro e w1 ⟨rfl, hB⟩
        go_wp2_with fail
        go_ret
        exact ⟨rfl, hB⟩
      · have d2 : decide ((l.length : Int) ≤ 20000) = false := decide_eq_false (by omega)
        have d2n : decide (l.length ≤ 20000) = false := decide_eq_false h2
        have d3 : decide ((20100 : Int) < (l.length : Int)) = true := decide_eq_true (by omega)
        have d3n : decide (20100 < l.length) = true := decide_eq_true (by omega)
        clear ha
        go_enter Tryd.func3, Tryd.ntmps3
        go_wp2_with fail
        refine (awake_any _ (VT.below (Hid.out (by with_reducible assumption)) (by repeat' (first | (with_reducible exact Below.refl _ _) | (with_reducible assumption) | (with_reducible exact Hid.out (by with_reducible assumption)) | (with_reducible refine below_one _ ?_) | (with_reducible refine Below.drew ?_))))).mono ?_
        rintro e w1 ⟨rfl, hB⟩
        go_wp2_with fail
        go_ret
        exact ⟨rfl, hB⟩
    · omega
  · have hl9 : l.length < 900000 := by omega
    have d3 : decide ((20100 : Int) < (l.length : Int)) = false := decide_eq_false (by omega)
    have d3n : decide (20100 < l.length) = false := decide_eq_false (by omega)
    obtain ⟨q, hq⟩ : ∃ q, decide (3000 < l.length) = q := ⟨_, rfl⟩
    have d1 : decide ((3000 : Int) < (l.length : Int)) = q := by rw [← hq, decide_eq_decide]; omega
    obtain ⟨q2, hq2⟩ : ∃ q, decide (l.length ≤ 20000) = q := ⟨_, rfl⟩
    have d2 : decide ((l.length : Int) ≤ 20000) = q2 := by rw [← hq2, decide_eq_decide]; omega
    have HQ : Hid (q = true → q2 = false) := Lib.hid (fun h => by
      rw [← hq] at h
      rw [← hq2]
      exact decide_eq_false (by have := of_decide_eq_true h; omega))
    have h1 := fun W (hW : VT W) => rows_any l hl9 W hW
    have h2 := fun W => refRows_any l hl9 W
    cases hr : rowsL l with
    | inl x =>
      obtain ⟨a, b⟩ := x
      rw [hr] at h1 h2
      have H1 := Lib.hid h1
      have H2 := Lib.hid h2
      clear h1 h2 hr ha
      cases q
      all_goals
        first | (have e2 := HQ.out rfl; subst e2) | skip
        go_enter Tryd.func3, Tryd.ntmps3
        go_wp2_with fail
        refine (H1.out _ (VT.below (Hid.out (by with_reducible assumption)) (by repeat' (first | (with_reducible exact Below.refl _ _) | (with_reducible assumption) | (with_reducible exact Hid.out (by with_reducible assumption)) | (with_reducible refine below_one _ ?_) | (with_reducible refine Below.drew ?_))))).mono ?_
        rintro e w1 ⟨h1, hb⟩
        have h1 : e = .returned (.tuple #[.slice none 0 0, .agg #[.int .i64 (a : Int), .int .i64 (b : Int)]]) := h1
        subst h1
        have hB1 : Below w.heap.size w (w1.alloc (.cells #[.int .i64 (a : Int), .int .i64 (b : Int)] 26)) := hb.alloc hb.size _
        have r1 := CBlk.new 26 w1 [.int .i64 (a : Int), .int .i64 (b : Int)]
        clear hb
        go_wp2_with fail
        refine (H2.out _).mono ?_
        rintro e w2 ⟨h1, hb⟩
        have h1 : e = .returned (.tuple #[.slice none 0 0, .agg #[.int .i64 (a : Int), .int .i64 (b : Int)]]) := h1
        subst h1
        have hB2 := hB1.trans (hb.mono hB1.size)
        have r1 := r1.below hb (by simp)
        have hB2 : Below w.heap.size w (w2.alloc (.cells #[.int .i64 (a : Int), .int .i64 (b : Int)] 26)) := hB2.alloc hB2.size _
        have r1 := r1.alloc (.cells #[.int .i64 (a : Int), .int .i64 (b : Int)] 26)
        have r2 := CBlk.new 26 w2 [.int .i64 (a : Int), .int .i64 (b : Int)]
        have hlt := hb.size
        clear hb hB1
        go_wp2_with fail
        refine (same_any [] (by decide) (by simp) _ _ _ (RowsAt.nil _) (RowsAt.nil _)).mono ?_
        rintro e w3 ⟨rfl, hb⟩
        have r1 := r1.below hb r1.lt
        have r2 := r2.below hb r2.lt
        have hB := hB2.trans (hb.mono hB2.size)
        obtain ⟨c0, c1⟩ := r1.cells2
        obtain ⟨e0, e1⟩ := r2.cells2
        clear hb hB2
        go_wp2_with fail
        refine (awake_any _ (VT.below (Hid.out (by with_reducible assumption)) (by repeat' (first | (with_reducible exact Below.refl _ _) | (with_reducible assumption) | (with_reducible exact Hid.out (by with_reducible assumption)) | (with_reducible refine below_one _ ?_) | (with_reducible refine Below.drew ?_))))).mono ?_
        rintro e w4 ⟨rfl, hb⟩
        have hB := hB.trans (hb.mono hB.size)
        go_wp2_with fail
        go_ret
        exact ⟨rfl, hB⟩
    | inr rs =>
      rw [hr] at h1 h2
      have hs := (rowsL_small hr).1
      have hsl := hs.1
      have HSW := Lib.hid hs.words
      have H1 := Lib.hid h1
      have H2 := Lib.hid h2
      clear h1 h2 hr ha hs
      cases q
      all_goals
        first | (have e2 := HQ.out rfl; subst e2) | skip
        go_enter Tryd.func3, Tryd.ntmps3
        go_wp2_with fail
        refine (H1.out _ (VT.below (Hid.out (by with_reducible assumption)) (by repeat' (first | (with_reducible exact Below.refl _ _) | (with_reducible assumption) | (with_reducible exact Hid.out (by with_reducible assumption)) | (with_reducible refine below_one _ ?_) | (with_reducible refine Below.drew ?_))))).mono ?_
        rintro e w1 ⟨⟨v1, rfl, hv1⟩, hb⟩
        have hv1a := hv1.below (k := w1.heap.size) ((Below.refl _ _).alloc (Nat.le_refl _) (.cells #[.int .i64 0, .int .i64 0] 26)) (Nat.le_refl _)
        obtain ⟨p1, c1, cs1, rfl, -, -⟩ := hv1
        have hB1 : Below w.heap.size w (w1.alloc (.cells #[.int .i64 0, .int .i64 0] 26)) := hb.alloc hb.size _
        have r1 := CBlk.new 26 w1 [.int .i64 0, .int .i64 0]
        have HV1 := Lib.hid hv1a
        clear hb hv1a
        go_wp2_with fail
        refine (H2.out _).mono ?_
        rintro e w2 ⟨⟨v2, rfl, hv2⟩, hb⟩
        have hv2a := hv2.below (k := w2.heap.size) ((Below.refl _ _).alloc (Nat.le_refl _) (.cells #[.int .i64 0, .int .i64 0] 26)) (Nat.le_refl _)
        have hv1a := (HV1.out.below hb (Nat.le_refl _)).below (k := w2.heap.size) ((Below.refl _ _).alloc (Nat.le_refl _) (.cells #[.int .i64 0, .int .i64 0] 26)) (Nat.le_refl _)
        obtain ⟨p2, c2, cs2, rfl, -, -⟩ := hv2
        have HV1 := Lib.hid hv1a
        have HV2 := Lib.hid hv2a
        have hB2 := hB1.trans (hb.mono hB1.size)
        have r1 := r1.below hb (by simp)
        have hB2 : Below w.heap.size w (w2.alloc (.cells #[.int .i64 0, .int .i64 0] 26)) := hB2.alloc hB2.size _
        have r1 := r1.alloc (.cells #[.int .i64 0, .int .i64 0] 26)
        have r2 := CBlk.new 26 w2 [.int .i64 0, .int .i64 0]
        have hlt := hb.size
        clear hb hB1 hv1a hv2a
        go_wp2_with fail
        refine (same_any rs (by omega) (fun r hr => Nat.lt_of_lt_of_le (HSW.out r hr) (by omega)) _ _ _ HV1.out HV2.out).mono ?_
        rintro e w3 ⟨rfl, hb⟩
        have r1 := r1.below hb r1.lt
        have r2 := r2.below hb r2.lt
        have hB := hB2.trans (hb.mono hB2.size)
        obtain ⟨c0, c1⟩ := r1.cells2
        obtain ⟨e0, e1⟩ := r2.cells2
        clear hb hB2
        go_wp2_with fail
        refine (awake_any _ (VT.below (Hid.out (by with_reducible assumption)) (by repeat' (first | (with_reducible exact Below.refl _ _) | (with_reducible assumption) | (with_reducible exact Hid.out (by with_reducible assumption)) | (with_reducible refine below_one _ ?_) | (with_reducible refine Below.drew ?_))))).mono ?_
        rintro e w4 ⟨rfl, hb⟩
        have hB := hB.trans (hb.mono hB.size)
        go_wp2_with fail
        go_ret
        exact ⟨rfl, hB⟩
theorem lightB_fair {rs : List Rw} (h : lightB rs = true) : Fair rs ∧ rs.length ≤ 300 ∧ ∀ r ∈ rs, r.words.length ≤ 60 := by
  unfold lightB at h
  rw [Bool.and_eq_true] at h
  have hl := of_decide_eq_true h.2
  have h1 := h.1
  rw [List.take_of_length_le hl, List.all_eq_true] at h1
  have h2 : ∀ r ∈ rs, r.words.length ≤ 60 ∧ ∀ x ∈ r.words, x.text.length ≤ 1100 := fun r hr => by
    have := h1 r hr
    unfold lightR at this
    rw [Bool.and_eq_true, List.all_eq_true] at this
    exact ⟨of_decide_eq_true this.1, fun x hx => of_decide_eq_true (this.2 x hx)⟩
  exact ⟨fun r hr => ⟨by have := (h2 r hr).1; omega, fun x hx => by have := (h2 r hr).2 x hx; omega⟩, hl, fun r hr => (h2 r hr).1⟩
set_option maxRecDepth 100000 in
set_option maxHeartbeats 8000000 in
theorem writes_law (rs : List Rw) (v : Value) (w : World) (hT : VT w) (h : RowsAt w v rs) :
    Calls Tryd.prog 4 #[v] w fun e w' => e = .returned (.bool true) ∧ Below w.heap.size w w' := by
  have HVT := Lib.hid hT
  clear hT
  have hv := h
  obtain ⟨p, c, cs, rfl, -, -⟩ := h
  have HV : Hid (RowsAt w (.slice p rs.length c) rs) := hv
  clear hv
  cases hq : lightB rs
  · have HQ := Lib.hid hq
    clear hq
    go_enter Tryd.func4, Tryd.ntmps4
    go_wp2_with fail
    refine (light_any rs _ _ HV.out).mono ?_
    rintro e w1 ⟨rfl, rfl⟩
    rw [HQ.out]
    go_wp2_with fail
    refine (awake_any _ (VT.below (Hid.out (by with_reducible assumption)) (by repeat' (first | (with_reducible exact Below.refl _ _) | (with_reducible assumption) | (with_reducible exact Hid.out (by with_reducible assumption)) | (with_reducible refine below_one _ ?_) | (with_reducible refine Below.drew ?_))))).mono ?_
    rintro e w1 ⟨rfl, hB⟩
    go_wp2_with fail
    go_ret
    exact ⟨rfl, hB⟩
  · obtain ⟨hf, hn, hw⟩ := lightB_fair hq
    have HQ := Lib.hid hq
    have HF := Lib.hid hf
    have HW := Lib.hid hw
    obtain ⟨t, e, hR⟩ : ∃ (t : List UInt8) (e : Nat), Hid (textV rs = .tuple #[.string ⟨t.toArray⟩, .int .i64 (e : Int)]) := by
      unfold textV textR
      split
      · exact ⟨[], _, Lib.hid rfl⟩
      · exact ⟨_, 0, Lib.hid rfl⟩
    clear hq hf hw
    go_enter Tryd.func4, Tryd.ntmps4
    go_wp2_with fail
    refine (light_any rs _ _ HV.out).mono ?_
    rintro e' w1 ⟨rfl, rfl⟩
    rw [HQ.out]
    go_wp2_with fail
    refine (own_any rs (by omega) (fun r hr => by have := HW.out r hr; omega) _ _ HV.out).mono ?_
    rintro e' w1 ⟨v1, rfl, hv1, hB⟩
    have HV1 := Lib.hid hv1
    obtain ⟨p1, c1, cs1, rfl, -, -⟩ := hv1
    go_wp2_with fail
    refine (text_any rs _ HF.out _ HV1.out (by omega)).mono ?_
    rintro e' w2 ⟨rfl, hb⟩
    rw [hR.out]
    have HV1 := Lib.hid (HV1.out.below hb (Nat.le_refl _))
    have hB := hB.trans (hb.mono hB.size)
    clear hb
    go_wp2_with fail
    refine (refText_any rs _ HF.out _ (HV.out.below hB (Nat.le_refl _)) (by omega)).mono ?_
    rintro e' w3 ⟨rfl, hb⟩
    rw [hR.out]
    have HV1 := Lib.hid (HV1.out.below hb (Nat.le_refl _))
    have hB := hB.trans (hb.mono hB.size)
    clear hb
    go_wp2_with fail
    refine (same_any rs (by omega) (fun r hr => by have := HW.out r hr; omega) _ _ _ HV1.out (HV.out.below hB (Nat.le_refl _))).mono ?_
    rintro e' w4 ⟨rfl, hb⟩
    have hB := hB.trans (hb.mono hB.size)
    clear hb
    go_wp2_with fail
    refine (awake_any _ (VT.below (Hid.out (by with_reducible assumption)) (by repeat' (first | (with_reducible exact Below.refl _ _) | (with_reducible assumption) | (with_reducible exact Hid.out (by with_reducible assumption)) | (with_reducible refine below_one _ ?_) | (with_reducible refine Below.drew ?_))))).mono ?_
    rintro e' w5 ⟨rfl, hb⟩
    have hB := hB.trans (hb.mono hB.size)
    go_wp2_with fail
    go_ret
    exact ⟨rfl, hB⟩
end Go.Proofs.YtacceiloggnekaaDoor
