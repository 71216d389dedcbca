/-
  The law RowBack returns true for every input.
-/
import Derived.Test.YtacceiloggnekaaDoorRBackP
import Derived.Test.YtacceiloggnekaaDoorRHelp
import Derived.Test.YtacceiloggnekaaDoorROwn
import Derived.Test.YtacceiloggnekaaDoorRSame
namespace Go.Proofs.YtacceiloggnekaaDoor
open Go.RowKit
set_option maxRecDepth 100000 in
set_option maxHeartbeats 16000000 in
theorem back_law (rs : List Rw) (v : Value) (l : List UInt8) (w : World) (hT : VT w) (h : RowsAt w v rs) :
    Calls Tryd.prog 7 #[v, .string ⟨l.toArray⟩] w fun e w' => e = .returned (.bool true) ∧ Below w.heap.size w w' := by
  have HVT := Lib.hid hT
  clear hT
  have hv := h
  obtain ⟨p, c, cs, rfl, k1, j1⟩ := h
  have HV : Hid (RowsAt w (.slice p rs.length c) rs) := hv
  have H1 : Hid (RowCs w cs rs) := k1
  have J1 : Hid (CellsIn w p (rs.length * 2) (fun j => cs.getD j (.int .i64 0))) := j1
  clear k1 j1 hv
  have hB := Below.refl w.heap.size w
  by_cases h20 : 20 < rs.length
  · have d1 : decide ((20 : Int) < (rs.length : Int)) = true := decide_eq_true (by omega)
    have d1n : decide (20 < rs.length) = true := decide_eq_true h20
    go_enter Tryd.func7, Tryd.ntmps7
    go_wp2_with fail
    refine (awake_any _ (VT.below (Hid.out (by with_reducible assumption)) (by repeat' (first | (with_reducible exact Below.refl _ _) | (with_reducible assumption) | (with_reducible exact Hid.out (by with_reducible assumption)) | (with_reducible refine below_one _ ?_) | (with_reducible refine Below.drew ?_))))).mono ?_
    rintro e wz ⟨rfl, hb⟩
    have hB := hB.trans (hb.mono hB.size)
    go_wp2_with fail
    go_ret
    exact ⟨rfl, hB⟩
  have d1 : decide ((20 : Int) < (rs.length : Int)) = false := decide_eq_false (by omega)
  have d1n : decide (20 < rs.length) = false := decide_eq_false h20
  by_cases h600 : 600 < l.length
  · have d2 : decide ((600 : Int) < (l.length : Int)) = true := decide_eq_true (by omega)
    have d2n : decide (600 < l.length) = true := decide_eq_true h600
    go_enter Tryd.func7, Tryd.ntmps7
    go_wp2_with fail
    refine (awake_any _ (VT.below (Hid.out (by with_reducible assumption)) (by repeat' (first | (with_reducible exact Below.refl _ _) | (with_reducible assumption) | (with_reducible exact Hid.out (by with_reducible assumption)) | (with_reducible refine below_one _ ?_) | (with_reducible refine Below.drew ?_))))).mono ?_
    rintro e wz ⟨rfl, hb⟩
    have hB := hB.trans (hb.mono hB.size)
    go_wp2_with fail
    go_ret
    exact ⟨rfl, hB⟩
  have d2 : decide ((600 : Int) < (l.length : Int)) = false := decide_eq_false (by omega)
  have d2n : decide (600 < l.length) = false := decide_eq_false h600
  have hl9 : l.length < 900000 := by omega
  have HQ := Lib.hid (read_alt l)
  go_enter Tryd.func7, Tryd.ntmps7
  go_wp2_with fail
  go_loopw [5] (fun i wr => ∃ k : Nat, k ≤ rs.length ∧ i = .int .i64 k ∧ Hid ((rs.take k).all okR = true) ∧ w = wr) (fun i _ => rs.length - (intOf i).toNat)
  case atStart => exact ⟨0, Nat.zero_le _, rfl, Lib.hid rfl, rfl⟩
  case round =>
  obtain ⟨k, hk, rfl, hal, rfl⟩ := hrel
  by_cases hlt : k < rs.length
  · have d3 : decide ((k : Int) < (rs.length : Int)) = true := decide_eq_true (by omega)
    have hb2 : (k : Int) < (rs.length : Int) := by omega
    have hall := take_all hlt okR
    rw [hal.out, Bool.true_and] at hall
    obtain ⟨wb, wo, wp, wc, hp, hwb, -, hcell, hwc⟩ := row_cells H1.out J1.out (Below.refl _ w) hlt
    obtain ⟨r, hr⟩ : ∃ r, rs[k] = r := ⟨_, rfl⟩
    rw [hr] at hcell hwc hall
    have hlr : okR r = (decide (1 ≤ r.words.length) && (decide (r.words.length ≤ 12) && r.words.all fun x => decide (x.text.length ≤ 60))) := rfl
    obtain ⟨ws, hws⟩ : ∃ ws, r.words = ws := ⟨_, rfl⟩
    rw [hws] at hcell hwc hlr
    have HWC : Hid (CellsIn w wp (ws.length * 3) (fun j => (wdsC ws).getD j (.int .i64 0))) := hwc
    have HALL := Lib.hid hall
    have HLR := Lib.hid hlr
    subst hp
    clear hwc hall hlr hr hws
    by_cases h0 : ws.length < 1
    · have d4 : decide ((ws.length : Int) < 1) = true := decide_eq_true (by omega)
      have d4n : decide (ws.length < 1) = true := decide_eq_true h0
      go_wp2_with fail
      refine (awake_any _ (VT.below (Hid.out (by with_reducible assumption)) (by repeat' (first | (with_reducible exact Below.refl _ _) | (with_reducible assumption) | (with_reducible exact Hid.out (by with_reducible assumption)) | (with_reducible refine below_one _ ?_) | (with_reducible refine Below.drew ?_))))).mono ?_
      rintro e wz ⟨rfl, hb⟩
      have hB := hB.trans (hb.mono hB.size)
      go_wp2_with fail
      go_ret
      exact ⟨rfl, hB⟩
    have d4 : decide ((ws.length : Int) < 1) = false := decide_eq_false (by omega)
    have d4n : decide (ws.length < 1) = false := decide_eq_false h0
    by_cases h12 : 12 < ws.length
    · have d5 : decide ((12 : Int) < (ws.length : Int)) = true := decide_eq_true (by omega)
      have d5n : decide (12 < ws.length) = true := decide_eq_true h12
      go_wp2_with fail
      refine (awake_any _ (VT.below (Hid.out (by with_reducible assumption)) (by repeat' (first | (with_reducible exact Below.refl _ _) | (with_reducible assumption) | (with_reducible exact Hid.out (by with_reducible assumption)) | (with_reducible refine below_one _ ?_) | (with_reducible refine Below.drew ?_))))).mono ?_
      rintro e wz ⟨rfl, hb⟩
      have hB := hB.trans (hb.mono hB.size)
      go_wp2_with fail
      go_ret
      exact ⟨rfl, hB⟩
    have d5 : decide ((12 : Int) < (ws.length : Int)) = false := decide_eq_false (by omega)
    have d5n : decide (12 < ws.length) = false := decide_eq_false h12
    go_wp2_with fail
    go_loopw [6] (fun i wx => ∃ m : Nat, m ≤ ws.length ∧ i = .int .i64 m ∧ Hid ((ws.take m).all (fun x => decide (x.text.length ≤ 60)) = true) ∧ w = wx) (fun i _ => ws.length - (intOf i).toNat)
    case atStart => exact ⟨0, Nat.zero_le _, rfl, Lib.hid rfl, rfl⟩
    case round =>
    obtain ⟨m, hm, rfl, hal2, rfl⟩ := hrel
    by_cases hlt2 : m < ws.length
    · have d6 : decide ((m : Int) < (ws.length : Int)) = true := decide_eq_true (by omega)
      have hb3 : (m : Int) < (ws.length : Int) := by omega
      have hall2 := take_all hlt2 (fun x : Wd => decide (x.text.length ≤ 60))
      rw [hal2.out, Bool.true_and] at hall2
      obtain ⟨xb, xo, rfl, hxb, q0, q1, q2⟩ := word_cells HWC.out (Below.refl _ w) hlt2
      obtain ⟨x, hx⟩ : ∃ x, ws[m].text = x := ⟨_, rfl⟩
      rw [hx] at q1 hall2
      by_cases h60 : 60 < x.length
      · have d7 : decide ((60 : Int) < (x.length : Int)) = true := decide_eq_true (by omega)
        have d7n : decide (60 < x.length) = true := decide_eq_true h60
        clear hall2 hx q0 q2
        go_wp2_with fail
        refine (awake_any _ (VT.below (Hid.out (by with_reducible assumption)) (by repeat' (first | (with_reducible exact Below.refl _ _) | (with_reducible assumption) | (with_reducible exact Hid.out (by with_reducible assumption)) | (with_reducible refine below_one _ ?_) | (with_reducible refine Below.drew ?_))))).mono ?_
        rintro e wz ⟨rfl, hb⟩
        have hB := hB.trans (hb.mono hB.size)
        go_wp2_with fail
        go_ret
        exact ⟨rfl, hB⟩
      · have d7 : decide ((60 : Int) < (x.length : Int)) = false := decide_eq_false (by omega)
        have d7n : decide (60 < x.length) = false := decide_eq_false h60
        have hnext : Hid ((ws.take (m + 1)).all (fun x => decide (x.text.length ≤ 60)) = true) := Lib.hid (by rw [hall2]; exact decide_eq_true (by omega))
        clear hall2 hx q0 q2
        go_wp2_with fail
        go_roundw
        case rel => exact ⟨m + 1, by omega, by go_num, hnext, trivial⟩
        case measure => simp [intOf]; omega
    · obtain rfl : m = ws.length := by omega
      have d6 : decide ((ws.length : Int) < (ws.length : Int)) = false := decide_eq_false (by omega)
      have hnext : Hid ((rs.take (k + 1)).all okR = true) := Lib.hid (by rw [HALL.out, HLR.out, decide_eq_true (by omega), Bool.true_and, decide_eq_true (by omega), Bool.true_and, ← hal2.out, List.take_length])
      go_wp2_with fail
      go_roundw
      case rel => exact ⟨k + 1, by omega, by go_num, hnext, trivial⟩
      case measure => simp [intOf]; omega
  · have d3 : decide ((k : Int) < (rs.length : Int)) = false := decide_eq_false (by omega)
    obtain rfl : k = rs.length := by omega
    obtain ⟨hf, hw, h0, hk0⟩ := okR_all (by have := hal.out; rwa [List.take_length] at this)
    have HF := Lib.hid hf
    have HW := Lib.hid hw
    have HN : Hid ((textsL rs).length < 1000000) := Lib.hid (by omega)
    rcases text_alt h0 with ht | ⟨T, rs', ht, hT, hr, hn, hw', he⟩
    · have HT := Lib.hid (textV_long ht)
      clear hf hw h0 ht hal d3
      go_wp2_with fail
      refine (own_any rs (by omega) HW.out _ _ HV.out).mono ?_
      rintro e y1 ⟨v1, rfl, hv1, hb⟩
      have hB := hB.trans (hb.mono hB.size)
      have HV1 := Lib.hid hv1
      obtain ⟨p1, c1, cs1, rfl, -, -⟩ := hv1
      clear hb
      go_wp2_with fail
      refine (text_any rs _ HF.out _ HV1.out (by omega)).mono ?_
      rintro e y2 ⟨rfl, hb⟩
      rw [HT.out]
      have hB := hB.trans (hb.mono hB.size)
      clear hb
      rcases id HQ.out with ⟨a, b, hr2, rfl | rfl⟩ | ⟨rs2, hr2, hf2, hn2, hw2, hk2, ht2 | ⟨T2, rs3, ht2, hT2, hr3, hn3, hw3, he3⟩⟩
      · have h2 := fun W (hW : VT W) => rows_any l hl9 W hW
        rw [hr2] at h2
        have H2 := Lib.hid h2
        clear h2 hr2
        go_wp2_with fail
        refine (H2.out _ (VT.below (Hid.out (by with_reducible assumption)) (by repeat' (first | (with_reducible exact Below.refl _ _) | (with_reducible assumption) | (with_reducible exact Hid.out (by with_reducible assumption)) | (with_reducible refine below_one _ ?_) | (with_reducible refine Below.drew ?_))))).mono ?_
        rintro e x1 ⟨hx1, hb⟩
        have hx1 : e = .returned (.tuple #[.slice none 0 0, .agg #[.int .i64 3, .int .i64 (b : Int)]]) := hx1
        subst hx1
        have hB := hB.trans (hb.mono hB.size)
        have hB : Below w.heap.size w (x1.alloc (.cells #[.int .i64 3, .int .i64 (b : Int)] 26)) := hB.alloc hB.size _
        have r1 := CBlk.new 26 x1 [.int .i64 3, .int .i64 (b : Int)]
        clear hb
        obtain ⟨f0, f1⟩ := r1.cells2
        go_wp2_with fail
        refine (awake_any _ (VT.below (Hid.out (by with_reducible assumption)) (by repeat' (first | (with_reducible exact Below.refl _ _) | (with_reducible assumption) | (with_reducible exact Hid.out (by with_reducible assumption)) | (with_reducible refine below_one _ ?_) | (with_reducible refine Below.drew ?_))))).mono ?_
        rintro e wz ⟨rfl, hb⟩
        have hB := hB.trans (hb.mono hB.size)
        go_wp2_with fail
        go_ret
        exact ⟨rfl, hB⟩
      · have h2 := fun W (hW : VT W) => rows_any l hl9 W hW
        rw [hr2] at h2
        have H2 := Lib.hid h2
        clear h2 hr2
        go_wp2_with fail
        refine (H2.out _ (VT.below (Hid.out (by with_reducible assumption)) (by repeat' (first | (with_reducible exact Below.refl _ _) | (with_reducible assumption) | (with_reducible exact Hid.out (by with_reducible assumption)) | (with_reducible refine below_one _ ?_) | (with_reducible refine Below.drew ?_))))).mono ?_
        rintro e x1 ⟨hx1, hb⟩
        have hx1 : e = .returned (.tuple #[.slice none 0 0, .agg #[.int .i64 4, .int .i64 (b : Int)]]) := hx1
        subst hx1
        have hB := hB.trans (hb.mono hB.size)
        have hB : Below w.heap.size w (x1.alloc (.cells #[.int .i64 4, .int .i64 (b : Int)] 26)) := hB.alloc hB.size _
        have r1 := CBlk.new 26 x1 [.int .i64 4, .int .i64 (b : Int)]
        clear hb
        obtain ⟨f0, f1⟩ := r1.cells2
        go_wp2_with fail
        refine (awake_any _ (VT.below (Hid.out (by with_reducible assumption)) (by repeat' (first | (with_reducible exact Below.refl _ _) | (with_reducible assumption) | (with_reducible exact Hid.out (by with_reducible assumption)) | (with_reducible refine below_one _ ?_) | (with_reducible refine Below.drew ?_))))).mono ?_
        rintro e wz ⟨rfl, hb⟩
        have hB := hB.trans (hb.mono hB.size)
        go_wp2_with fail
        go_ret
        exact ⟨rfl, hB⟩
      · have HT2 := Lib.hid (textV_long ht2)
        clear ht2
        have h2 := fun W (hW : VT W) => rows_any l hl9 W hW
        rw [hr2] at h2
        have H2 := Lib.hid h2
        have HF2 := Lib.hid hf2
        have HW2 := Lib.hid hw2
        clear h2 hr2 hf2 hw2
        go_wp2_with fail
        refine (H2.out _ (VT.below (Hid.out (by with_reducible assumption)) (by repeat' (first | (with_reducible exact Below.refl _ _) | (with_reducible assumption) | (with_reducible exact Hid.out (by with_reducible assumption)) | (with_reducible refine below_one _ ?_) | (with_reducible refine Below.drew ?_))))).mono ?_
        rintro e x1 ⟨⟨v2, rfl, hv2⟩, hb⟩
        have hB := hB.trans (hb.mono hB.size)
        have hB : Below w.heap.size w (x1.alloc (.cells #[.int .i64 0, .int .i64 0] 26)) := hB.alloc hB.size _
        have HV2 := Lib.hid (hv2.below (k := x1.heap.size) ((Below.refl _ _).alloc (Nat.le_refl _) (.cells #[.int .i64 0, .int .i64 0] 26)) (Nat.le_refl _))
        obtain ⟨p2, c2, cs2, rfl, -, -⟩ := hv2
        have r1 := CBlk.new 26 x1 [.int .i64 0, .int .i64 0]
        clear hb
        obtain ⟨f0, f1⟩ := r1.cells2
        go_wp2_with fail
        refine (own_any rs2 hn2 HW2.out _ _ HV2.out).mono ?_
        rintro e x2 ⟨v3, rfl, hv3, hb⟩
        have hB := hB.trans (hb.mono hB.size)
        have HV2 := Lib.hid (HV2.out.below hb (Nat.le_refl _))
        have r1 := r1.below hb r1.lt
        have HV3 := Lib.hid hv3
        obtain ⟨p3, c3, cs3, rfl, -, -⟩ := hv3
        clear hb f0 f1
        go_wp2_with fail
        refine (text_any rs2 _ HF2.out _ HV3.out (by omega)).mono ?_
        rintro e x3 ⟨rfl, hb⟩
        rw [HT2.out]
        have hB := hB.trans (hb.mono hB.size)
        have HV2 := Lib.hid (HV2.out.below hb (Nat.le_refl _))
        have r1 := r1.below hb r1.lt
        clear hb HV3
        go_wp2_with fail
        refine (awake_any _ (VT.below (Hid.out (by with_reducible assumption)) (by repeat' (first | (with_reducible exact Below.refl _ _) | (with_reducible assumption) | (with_reducible exact Hid.out (by with_reducible assumption)) | (with_reducible refine below_one _ ?_) | (with_reducible refine Below.drew ?_))))).mono ?_
        rintro e wz ⟨rfl, hb⟩
        have hB := hB.trans (hb.mono hB.size)
        go_wp2_with fail
        go_ret
        exact ⟨rfl, hB⟩
      · have HT2 := Lib.hid (textV_ok ht2)
        have h3 := fun W (hW : VT W) => rows_any T2 hT2 W hW
        rw [hr3] at h3
        have H3 := Lib.hid h3
        have HW3 := Lib.hid hw3
        have HE3 := Lib.hid he3
        have HN2 : Hid ((textsL rs2).length < 1000000) := Lib.hid (by omega)
        clear ht2 h3 hr3 hw3 he3
        have h2 := fun W (hW : VT W) => rows_any l hl9 W hW
        rw [hr2] at h2
        have H2 := Lib.hid h2
        have HF2 := Lib.hid hf2
        have HW2 := Lib.hid hw2
        clear h2 hr2 hf2 hw2
        go_wp2_with fail
        refine (H2.out _ (VT.below (Hid.out (by with_reducible assumption)) (by repeat' (first | (with_reducible exact Below.refl _ _) | (with_reducible assumption) | (with_reducible exact Hid.out (by with_reducible assumption)) | (with_reducible refine below_one _ ?_) | (with_reducible refine Below.drew ?_))))).mono ?_
        rintro e x1 ⟨⟨v2, rfl, hv2⟩, hb⟩
        have hB := hB.trans (hb.mono hB.size)
        have hB : Below w.heap.size w (x1.alloc (.cells #[.int .i64 0, .int .i64 0] 26)) := hB.alloc hB.size _
        have HV2 := Lib.hid (hv2.below (k := x1.heap.size) ((Below.refl _ _).alloc (Nat.le_refl _) (.cells #[.int .i64 0, .int .i64 0] 26)) (Nat.le_refl _))
        obtain ⟨p2, c2, cs2, rfl, -, -⟩ := hv2
        have r1 := CBlk.new 26 x1 [.int .i64 0, .int .i64 0]
        clear hb
        obtain ⟨f0, f1⟩ := r1.cells2
        go_wp2_with fail
        refine (own_any rs2 hn2 HW2.out _ _ HV2.out).mono ?_
        rintro e x2 ⟨v3, rfl, hv3, hb⟩
        have hB := hB.trans (hb.mono hB.size)
        have HV2 := Lib.hid (HV2.out.below hb (Nat.le_refl _))
        have r1 := r1.below hb r1.lt
        have HV3 := Lib.hid hv3
        obtain ⟨p3, c3, cs3, rfl, -, -⟩ := hv3
        clear hb f0 f1
        go_wp2_with fail
        refine (text_any rs2 _ HF2.out _ HV3.out (by omega)).mono ?_
        rintro e x3 ⟨rfl, hb⟩
        rw [HT2.out]
        have hB := hB.trans (hb.mono hB.size)
        have HV2 := Lib.hid (HV2.out.below hb (Nat.le_refl _))
        have r1 := r1.below hb r1.lt
        clear hb HV3
        go_wp2_with fail
        refine (H3.out _ (VT.below (Hid.out (by with_reducible assumption)) (by repeat' (first | (with_reducible exact Below.refl _ _) | (with_reducible assumption) | (with_reducible exact Hid.out (by with_reducible assumption)) | (with_reducible refine below_one _ ?_) | (with_reducible refine Below.drew ?_))))).mono ?_
        rintro e x4 ⟨⟨v4, rfl, hv4⟩, hb⟩
        have hB := hB.trans (hb.mono hB.size)
        have HV2 := Lib.hid (HV2.out.below hb (Nat.le_refl _))
        have r1 := r1.below hb r1.lt
        have r2 := r1.set 0 (.int .i64 0)
        have hbs := below_same r2 1 (.int .i64 0) rfl (below_same r1 0 (.int .i64 0) rfl (Below.refl x4.heap.size x4))
        have HV4 := Lib.hid (hv4.below hbs (Nat.le_refl _))
        have HV2 := Lib.hid (HV2.out.below hbs (Nat.le_refl _))
        obtain ⟨p4, c4, cs4, rfl, -, -⟩ := hv4
        have hB := below_same r2 1 (.int .i64 0) rfl (below_same r1 0 (.int .i64 0) rfl hB)
        have r3 := r2.set 1 (.int .i64 0)
        have z0 := r1.free 0
        have z1 := r1.free 1
        obtain ⟨f0, f1⟩ := r1.cells2
        clear hb hbs
        go_wp2_with fail
        refine (texts_any rs3 hn3 HW3.out _ _ HV4.out).mono ?_
        rintro e vaw ⟨va, rfl, hown, hb⟩
        rw [HE3.out] at hown
        have HV2 := Lib.hid (HV2.out.below hb (Nat.le_refl _))
        have vas := strs_of_own hown
        obtain ⟨vap, vac, rfl, -⟩ := id vas
        have vaH := Lib.hid vas
        clear hown vas
        have hB := hB.trans (hb.mono hB.size)
        clear hb
        go_wp2_with fail
        refine (texts_any rs2 hn2 HW2.out _ _ HV2.out).mono ?_
        rintro e vbw ⟨vb, rfl, hown, hb⟩
        have vaH := Lib.hid (vaH.out.below hb (Nat.le_refl _))
        have vbs := strs_of_own hown
        obtain ⟨vbp, vbc, rfl, -⟩ := id vbs
        have vbH := Lib.hid vbs
        clear hown vbs
        have hB := hB.trans (hb.mono hB.size)
        clear hb
        go_wp2_with fail
        refine (sameTexts_any (textsL rs2) HN2.out _ _ _ vaH.out vbH.out).mono ?_
        rintro e x7 ⟨rfl, hb⟩
        have hB := hB.trans (hb.mono hB.size)
        clear hb
        go_wp2_with fail
        refine (awake_any _ (VT.below (Hid.out (by with_reducible assumption)) (by repeat' (first | (with_reducible exact Below.refl _ _) | (with_reducible assumption) | (with_reducible exact Hid.out (by with_reducible assumption)) | (with_reducible refine below_one _ ?_) | (with_reducible refine Below.drew ?_))))).mono ?_
        rintro e wz ⟨rfl, hb⟩
        have hB := hB.trans (hb.mono hB.size)
        go_wp2_with fail
        go_ret
        exact ⟨rfl, hB⟩
    · have HT := Lib.hid (textV_ok ht)
      have h1 := fun W (hW : VT W) => rows_any T hT W hW
      rw [hr] at h1
      have HR1 := Lib.hid h1
      have HW' := Lib.hid hw'
      have HE := Lib.hid he
      clear hf hw h0 ht hal d3 h1 hr hw' he
      go_wp2_with fail
      refine (own_any rs (by omega) HW.out _ _ HV.out).mono ?_
      rintro e y1 ⟨v1, rfl, hv1, hb⟩
      have hB := hB.trans (hb.mono hB.size)
      have HV1 := Lib.hid hv1
      obtain ⟨p1, c1, cs1, rfl, -, -⟩ := hv1
      clear hb
      go_wp2_with fail
      refine (text_any rs _ HF.out _ HV1.out (by omega)).mono ?_
      rintro e y2 ⟨rfl, hb⟩
      rw [HT.out]
      have hB := hB.trans (hb.mono hB.size)
      clear hb
      go_wp2_with fail
      refine (HR1.out _ (VT.below (Hid.out (by with_reducible assumption)) (by repeat' (first | (with_reducible exact Below.refl _ _) | (with_reducible assumption) | (with_reducible exact Hid.out (by with_reducible assumption)) | (with_reducible refine below_one _ ?_) | (with_reducible refine Below.drew ?_))))).mono ?_
      rintro e y3 ⟨⟨vn, rfl, hvn⟩, hb⟩
      have hB := hB.trans (hb.mono hB.size)
      have hB : Below w.heap.size w (y3.alloc (.cells #[.int .i64 0, .int .i64 0] 26)) := hB.alloc hB.size _
      have HVN := Lib.hid (hvn.below (k := y3.heap.size) ((Below.refl _ _).alloc (Nat.le_refl _) (.cells #[.int .i64 0, .int .i64 0] 26)) (Nat.le_refl _))
      obtain ⟨pn, cn, csn, rfl, -, -⟩ := hvn
      have r0 := CBlk.new 26 y3 [.int .i64 0, .int .i64 0]
      obtain ⟨f0, f1⟩ := r0.cells2
      clear hb
      go_wp2_with fail
      refine (texts_any rs' hn HW'.out _ _ HVN.out).mono ?_
      rintro e vaw ⟨va, rfl, hown, hb⟩
      rw [HE.out] at hown
      have vas := strs_of_own hown
      obtain ⟨vap, vac, rfl, -⟩ := id vas
      have vaH := Lib.hid vas
      clear hown vas
      have hB := hB.trans (hb.mono hB.size)
      clear hb
      go_wp2_with fail
      refine (texts_any rs (by omega) HW.out _ _ (HV.out.below hB (Nat.le_refl _))).mono ?_
      rintro e vbw ⟨vb, rfl, hown, hb⟩
      have vaH := Lib.hid (vaH.out.below hb (Nat.le_refl _))
      have vbs := strs_of_own hown
      obtain ⟨vbp, vbc, rfl, -⟩ := id vbs
      have vbH := Lib.hid vbs
      clear hown vbs
      have hB := hB.trans (hb.mono hB.size)
      clear hb
      go_wp2_with fail
      refine (sameTexts_any (textsL rs) HN.out _ _ _ vaH.out vbH.out).mono ?_
      rintro e y7 ⟨rfl, hb⟩
      have hB := hB.trans (hb.mono hB.size)
      clear hb f0 f1 vaH vbH
      rcases id HQ.out with ⟨a, b, hr2, rfl | rfl⟩ | ⟨rs2, hr2, hf2, hn2, hw2, hk2, ht2 | ⟨T2, rs3, ht2, hT2, hr3, hn3, hw3, he3⟩⟩
      · have h2 := fun W (hW : VT W) => rows_any l hl9 W hW
        rw [hr2] at h2
        have H2 := Lib.hid h2
        clear h2 hr2
        go_wp2_with fail
        refine (H2.out _ (VT.below (Hid.out (by with_reducible assumption)) (by repeat' (first | (with_reducible exact Below.refl _ _) | (with_reducible assumption) | (with_reducible exact Hid.out (by with_reducible assumption)) | (with_reducible refine below_one _ ?_) | (with_reducible refine Below.drew ?_))))).mono ?_
        rintro e x1 ⟨hx1, hb⟩
        have hx1 : e = .returned (.tuple #[.slice none 0 0, .agg #[.int .i64 3, .int .i64 (b : Int)]]) := hx1
        subst hx1
        have hB := hB.trans (hb.mono hB.size)
        have hB : Below w.heap.size w (x1.alloc (.cells #[.int .i64 3, .int .i64 (b : Int)] 26)) := hB.alloc hB.size _
        have r1 := CBlk.new 26 x1 [.int .i64 3, .int .i64 (b : Int)]
        clear hb
        obtain ⟨f0, f1⟩ := r1.cells2
        go_wp2_with fail
        refine (awake_any _ (VT.below (Hid.out (by with_reducible assumption)) (by repeat' (first | (with_reducible exact Below.refl _ _) | (with_reducible assumption) | (with_reducible exact Hid.out (by with_reducible assumption)) | (with_reducible refine below_one _ ?_) | (with_reducible refine Below.drew ?_))))).mono ?_
        rintro e wz ⟨rfl, hb⟩
        have hB := hB.trans (hb.mono hB.size)
        go_wp2_with fail
        go_ret
        exact ⟨rfl, hB⟩
      · have h2 := fun W (hW : VT W) => rows_any l hl9 W hW
        rw [hr2] at h2
        have H2 := Lib.hid h2
        clear h2 hr2
        go_wp2_with fail
        refine (H2.out _ (VT.below (Hid.out (by with_reducible assumption)) (by repeat' (first | (with_reducible exact Below.refl _ _) | (with_reducible assumption) | (with_reducible exact Hid.out (by with_reducible assumption)) | (with_reducible refine below_one _ ?_) | (with_reducible refine Below.drew ?_))))).mono ?_
        rintro e x1 ⟨hx1, hb⟩
        have hx1 : e = .returned (.tuple #[.slice none 0 0, .agg #[.int .i64 4, .int .i64 (b : Int)]]) := hx1
        subst hx1
        have hB := hB.trans (hb.mono hB.size)
        have hB : Below w.heap.size w (x1.alloc (.cells #[.int .i64 4, .int .i64 (b : Int)] 26)) := hB.alloc hB.size _
        have r1 := CBlk.new 26 x1 [.int .i64 4, .int .i64 (b : Int)]
        clear hb
        obtain ⟨f0, f1⟩ := r1.cells2
        go_wp2_with fail
        refine (awake_any _ (VT.below (Hid.out (by with_reducible assumption)) (by repeat' (first | (with_reducible exact Below.refl _ _) | (with_reducible assumption) | (with_reducible exact Hid.out (by with_reducible assumption)) | (with_reducible refine below_one _ ?_) | (with_reducible refine Below.drew ?_))))).mono ?_
        rintro e wz ⟨rfl, hb⟩
        have hB := hB.trans (hb.mono hB.size)
        go_wp2_with fail
        go_ret
        exact ⟨rfl, hB⟩
      · have HT2 := Lib.hid (textV_long ht2)
        clear ht2
        have h2 := fun W (hW : VT W) => rows_any l hl9 W hW
        rw [hr2] at h2
        have H2 := Lib.hid h2
        have HF2 := Lib.hid hf2
        have HW2 := Lib.hid hw2
        clear h2 hr2 hf2 hw2
        go_wp2_with fail
        refine (H2.out _ (VT.below (Hid.out (by with_reducible assumption)) (by repeat' (first | (with_reducible exact Below.refl _ _) | (with_reducible assumption) | (with_reducible exact Hid.out (by with_reducible assumption)) | (with_reducible refine below_one _ ?_) | (with_reducible refine Below.drew ?_))))).mono ?_
        rintro e x1 ⟨⟨v2, rfl, hv2⟩, hb⟩
        have hB := hB.trans (hb.mono hB.size)
        have hB : Below w.heap.size w (x1.alloc (.cells #[.int .i64 0, .int .i64 0] 26)) := hB.alloc hB.size _
        have HV2 := Lib.hid (hv2.below (k := x1.heap.size) ((Below.refl _ _).alloc (Nat.le_refl _) (.cells #[.int .i64 0, .int .i64 0] 26)) (Nat.le_refl _))
        obtain ⟨p2, c2, cs2, rfl, -, -⟩ := hv2
        have r1 := CBlk.new 26 x1 [.int .i64 0, .int .i64 0]
        clear hb
        obtain ⟨f0, f1⟩ := r1.cells2
        go_wp2_with fail
        refine (own_any rs2 hn2 HW2.out _ _ HV2.out).mono ?_
        rintro e x2 ⟨v3, rfl, hv3, hb⟩
        have hB := hB.trans (hb.mono hB.size)
        have HV2 := Lib.hid (HV2.out.below hb (Nat.le_refl _))
        have r1 := r1.below hb r1.lt
        have HV3 := Lib.hid hv3
        obtain ⟨p3, c3, cs3, rfl, -, -⟩ := hv3
        clear hb f0 f1
        go_wp2_with fail
        refine (text_any rs2 _ HF2.out _ HV3.out (by omega)).mono ?_
        rintro e x3 ⟨rfl, hb⟩
        rw [HT2.out]
        have hB := hB.trans (hb.mono hB.size)
        have HV2 := Lib.hid (HV2.out.below hb (Nat.le_refl _))
        have r1 := r1.below hb r1.lt
        clear hb HV3
        go_wp2_with fail
        refine (awake_any _ (VT.below (Hid.out (by with_reducible assumption)) (by repeat' (first | (with_reducible exact Below.refl _ _) | (with_reducible assumption) | (with_reducible exact Hid.out (by with_reducible assumption)) | (with_reducible refine below_one _ ?_) | (with_reducible refine Below.drew ?_))))).mono ?_
        rintro e wz ⟨rfl, hb⟩
        have hB := hB.trans (hb.mono hB.size)
        go_wp2_with fail
        go_ret
        exact ⟨rfl, hB⟩
      · have HT2 := Lib.hid (textV_ok ht2)
        have h3 := fun W (hW : VT W) => rows_any T2 hT2 W hW
        rw [hr3] at h3
        have H3 := Lib.hid h3
        have HW3 := Lib.hid hw3
        have HE3 := Lib.hid he3
        have HN2 : Hid ((textsL rs2).length < 1000000) := Lib.hid (by omega)
        clear ht2 h3 hr3 hw3 he3
        have h2 := fun W (hW : VT W) => rows_any l hl9 W hW
        rw [hr2] at h2
        have H2 := Lib.hid h2
        have HF2 := Lib.hid hf2
        have HW2 := Lib.hid hw2
        clear h2 hr2 hf2 hw2
        go_wp2_with fail
        refine (H2.out _ (VT.below (Hid.out (by with_reducible assumption)) (by repeat' (first | (with_reducible exact Below.refl _ _) | (with_reducible assumption) | (with_reducible exact Hid.out (by with_reducible assumption)) | (with_reducible refine below_one _ ?_) | (with_reducible refine Below.drew ?_))))).mono ?_
        rintro e x1 ⟨⟨v2, rfl, hv2⟩, hb⟩
        have hB := hB.trans (hb.mono hB.size)
        have hB : Below w.heap.size w (x1.alloc (.cells #[.int .i64 0, .int .i64 0] 26)) := hB.alloc hB.size _
        have HV2 := Lib.hid (hv2.below (k := x1.heap.size) ((Below.refl _ _).alloc (Nat.le_refl _) (.cells #[.int .i64 0, .int .i64 0] 26)) (Nat.le_refl _))
        obtain ⟨p2, c2, cs2, rfl, -, -⟩ := hv2
        have r1 := CBlk.new 26 x1 [.int .i64 0, .int .i64 0]
        clear hb
        obtain ⟨f0, f1⟩ := r1.cells2
        go_wp2_with fail
        refine (own_any rs2 hn2 HW2.out _ _ HV2.out).mono ?_
        rintro e x2 ⟨v3, rfl, hv3, hb⟩
        have hB := hB.trans (hb.mono hB.size)
        have HV2 := Lib.hid (HV2.out.below hb (Nat.le_refl _))
        have r1 := r1.below hb r1.lt
        have HV3 := Lib.hid hv3
        obtain ⟨p3, c3, cs3, rfl, -, -⟩ := hv3
        clear hb f0 f1
        go_wp2_with fail
        refine (text_any rs2 _ HF2.out _ HV3.out (by omega)).mono ?_
        rintro e x3 ⟨rfl, hb⟩
        rw [HT2.out]
        have hB := hB.trans (hb.mono hB.size)
        have HV2 := Lib.hid (HV2.out.below hb (Nat.le_refl _))
        have r1 := r1.below hb r1.lt
        clear hb HV3
        go_wp2_with fail
        refine (H3.out _ (VT.below (Hid.out (by with_reducible assumption)) (by repeat' (first | (with_reducible exact Below.refl _ _) | (with_reducible assumption) | (with_reducible exact Hid.out (by with_reducible assumption)) | (with_reducible refine below_one _ ?_) | (with_reducible refine Below.drew ?_))))).mono ?_
        rintro e x4 ⟨⟨v4, rfl, hv4⟩, hb⟩
        have hB := hB.trans (hb.mono hB.size)
        have HV2 := Lib.hid (HV2.out.below hb (Nat.le_refl _))
        have r1 := r1.below hb r1.lt
        have r2 := r1.set 0 (.int .i64 0)
        have hbs := below_same r2 1 (.int .i64 0) rfl (below_same r1 0 (.int .i64 0) rfl (Below.refl x4.heap.size x4))
        have HV4 := Lib.hid (hv4.below hbs (Nat.le_refl _))
        have HV2 := Lib.hid (HV2.out.below hbs (Nat.le_refl _))
        obtain ⟨p4, c4, cs4, rfl, -, -⟩ := hv4
        have hB := below_same r2 1 (.int .i64 0) rfl (below_same r1 0 (.int .i64 0) rfl hB)
        have r3 := r2.set 1 (.int .i64 0)
        have z0 := r1.free 0
        have z1 := r1.free 1
        obtain ⟨f0, f1⟩ := r1.cells2
        clear hb hbs
        go_wp2_with fail
        refine (texts_any rs3 hn3 HW3.out _ _ HV4.out).mono ?_
        rintro e vaw ⟨va, rfl, hown, hb⟩
        rw [HE3.out] at hown
        have HV2 := Lib.hid (HV2.out.below hb (Nat.le_refl _))
        have vas := strs_of_own hown
        obtain ⟨vap, vac, rfl, -⟩ := id vas
        have vaH := Lib.hid vas
        clear hown vas
        have hB := hB.trans (hb.mono hB.size)
        clear hb
        go_wp2_with fail
        refine (texts_any rs2 hn2 HW2.out _ _ HV2.out).mono ?_
        rintro e vbw ⟨vb, rfl, hown, hb⟩
        have vaH := Lib.hid (vaH.out.below hb (Nat.le_refl _))
        have vbs := strs_of_own hown
        obtain ⟨vbp, vbc, rfl, -⟩ := id vbs
        have vbH := Lib.hid vbs
        clear hown vbs
        have hB := hB.trans (hb.mono hB.size)
        clear hb
        go_wp2_with fail
        refine (sameTexts_any (textsL rs2) HN2.out _ _ _ vaH.out vbH.out).mono ?_
        rintro e x7 ⟨rfl, hb⟩
        have hB := hB.trans (hb.mono hB.size)
        clear hb
        go_wp2_with fail
        refine (awake_any _ (VT.below (Hid.out (by with_reducible assumption)) (by repeat' (first | (with_reducible exact Below.refl _ _) | (with_reducible assumption) | (with_reducible exact Hid.out (by with_reducible assumption)) | (with_reducible refine below_one _ ?_) | (with_reducible refine Below.drew ?_))))).mono ?_
        rintro e wz ⟨rfl, hb⟩
        have hB := hB.trans (hb.mono hB.size)
        go_wp2_with fail
        go_ret
        exact ⟨rfl, hB⟩
end Go.Proofs.YtacceiloggnekaaDoor
