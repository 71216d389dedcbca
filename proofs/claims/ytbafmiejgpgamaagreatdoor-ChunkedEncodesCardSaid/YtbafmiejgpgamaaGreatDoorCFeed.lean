/-
  Feed of a new decoder, and Decode, for every text; Rest of a decoder in whose first chunk some data is to come.
-/
import Derived.Test.YtbafmiejgpgamaaGreatDoorCTake
import Derived.Test.YtbafmiejgpgamaaGreatDoorCCheck
namespace Go.Proofs.YtbafmiejgpgamaaGreatDoor
open Go.RowKit
theorem dec0_ok : dec0.Ok := ⟨by decide, by decide, by decide, by decide, by decide, by decide, by decide, by decide⟩
theorem feed_results {w : World} {B : Nat} {x0 x1 x2 x3 x4 x5 x6 x7 y z : Value} (h : CBlk 34 w B [x0, x1, x2, x3, x4, x5, x6, x7]) {fn : Func} {p q r : Tmp} (hf : fn.results = #[.cell p 34, .tmp q, .tmp r]) (tmps : Array Value)
    (hp : tmps.getD p undef = .pointer (some ⟨B, 0, none⟩)) (hq : tmps.getD q undef = y) (hr : tmps.getD r undef = z) : (Go.results fn tmps).run Tryz.prog w = .ok (.tuple #[.agg #[x0, x1, x2, x3, x4, x5, x6, x7], y, z]) w := by
  have hp' : tmps[p]?.getD undef = .pointer (some ⟨B, 0, none⟩) := by simpa using hp
  have hq' : tmps[q]?.getD undef = y := by simpa using hq
  have hr' : tmps[r]?.getD undef = z := by simpa using hr
  have c0 := h.cell 0 (by simp)
  have c1 := h.cell 1 (by simp)
  have c2 := h.cell 2 (by simp)
  have c3 := h.cell 3 (by simp)
  have c4 := h.cell 4 (by simp)
  have c5 := h.cell 5 (by simp)
  have c6 := h.cell 6 (by simp)
  have c7 := h.cell 7 (by simp)
  simp only [List.getElem_cons_zero, List.getElem_cons_succ] at c0 c1 c2 c3 c4 c5 c6 c7
  simp [Go.results, hf, hp', hq', hr', asAddr, go_sem, c0, c1, c2, c3, c4, c5, c6, c7]
def feedV (l : List UInt8) : Value := .tuple #[decV (runD l dec0 0).1, .int .i64 ((runD l dec0 0).2 : Nat), .int .i64 0]
set_option maxHeartbeats 8000000 in
theorem feed_any (l : List UInt8) (hl : l.length < 1000000) (w : World) (hN : NTab w) :
    Calls Tryz.prog 12 #[.agg #[.int .i64 0, .int .i64 0, .int .i64 0, .int .i64 0, .string ⟨#[]⟩, .string ⟨#[]⟩, .int .i64 0, .int .i64 0], .string ⟨l.toArray⟩] w fun e w' => e = .returned (feedV l) ∧ Below w.heap.size w w' := by
  obtain ⟨D, n, hR⟩ : ∃ D n, runD l dec0 0 = (D, n) := ⟨_, _, rfl⟩
  have HV : Hid (feedV l = .tuple #[decV D, .int .i64 (n : Nat), .int .i64 0]) := Lib.hid (by unfold feedV; rw [hR])
  have HT := Lib.hid fun W B base v (h : DB W B base dec0 v) hN h1 h2 => take_any l hl W B base dec0 v h dec0_ok hN h1 h2
  rw [hR] at HT
  clear hR
  have g1 : 4 < w.heap.size := block_lt_of_cell (hN.tz 0 (by omega))
  have g2 : 2 < w.heap.size := by
    obtain ⟨_, _, _, _, h, _⟩ := hN.vb
    exact block_lt_of_cell h
  have hB0 : Below w.heap.size w ((w.alloc (.cells #[.int .i64 0, .int .i64 0, .int .i64 0, .int .i64 0, .string ⟨#[]⟩, .string ⟨#[]⟩, .int .i64 0, .int .i64 0] 34)).alloc (.cells #[.int .i64 0, .int .i64 0, .int .i64 0, .int .i64 0, .string ⟨#[]⟩, .string ⟨#[]⟩, .int .i64 0, .int .i64 0] 34)) := by go_grown
  have k0 : CBlk 34 ((w.alloc (.cells #[.int .i64 0, .int .i64 0, .int .i64 0, .int .i64 0, .string ⟨#[]⟩, .string ⟨#[]⟩, .int .i64 0, .int .i64 0] 34)).alloc (.cells #[.int .i64 0, .int .i64 0, .int .i64 0, .int .i64 0, .string ⟨#[]⟩, .string ⟨#[]⟩, .int .i64 0, .int .i64 0] 34)) w.heap.size [.int .i64 0, .int .i64 0, .int .i64 0, .int .i64 0, .string ⟨#[]⟩, .string ⟨#[]⟩, .int .i64 0, .int .i64 0] := (CBlk.new 34 w [.int .i64 0, .int .i64 0, .int .i64 0, .int .i64 0, .string ⟨#[]⟩, .string ⟨#[]⟩, .int .i64 0, .int .i64 0]).alloc _
  have r0 : CBlk 34 ((w.alloc (.cells #[.int .i64 0, .int .i64 0, .int .i64 0, .int .i64 0, .string ⟨#[]⟩, .string ⟨#[]⟩, .int .i64 0, .int .i64 0] 34)).alloc (.cells #[.int .i64 0, .int .i64 0, .int .i64 0, .int .i64 0, .string ⟨#[]⟩, .string ⟨#[]⟩, .int .i64 0, .int .i64 0] 34)) (w.heap.size + 1) [.int .i64 0, .int .i64 0, .int .i64 0, .int .i64 0, .string ⟨#[]⟩, .string ⟨#[]⟩, .int .i64 0, .int .i64 0] := by
    have := CBlk.new 34 (w.alloc (.cells #[.int .i64 0, .int .i64 0, .int .i64 0, .int .i64 0, .string ⟨#[]⟩, .string ⟨#[]⟩, .int .i64 0, .int .i64 0] 34)) [.int .i64 0, .int .i64 0, .int .i64 0, .int .i64 0, .string ⟨#[]⟩, .string ⟨#[]⟩, .int .i64 0, .int .i64 0]
    rw [World.size_alloc] at this
    exact this
  obtain ⟨W0, hW0⟩ : ∃ W0, (w.alloc (.cells #[.int .i64 0, .int .i64 0, .int .i64 0, .int .i64 0, .string ⟨#[]⟩, .string ⟨#[]⟩, .int .i64 0, .int .i64 0] 34)).alloc (.cells #[.int .i64 0, .int .i64 0, .int .i64 0, .int .i64 0, .string ⟨#[]⟩, .string ⟨#[]⟩, .int .i64 0, .int .i64 0] 34) = W0 := ⟨_, rfl⟩
  have H0 := Lib.hid hW0
  rw [hW0] at hB0 k0 r0
  clear hW0
  go_enter Tryz.func12, Tryz.ntmps12
  set_option maxRecDepth 10000 in
  go_upto_region 1 with fail
  rw [H0.out]
  clear H0
  have c0 := k0.cell 0 (by simp)
  have c1 := k0.cell 1 (by simp)
  have c2 := k0.cell 2 (by simp)
  have c3 := k0.cell 3 (by simp)
  have c4 := k0.cell 4 (by simp)
  have c5 := k0.cell 5 (by simp)
  have c6 := k0.cell 6 (by simp)
  have c7 := k0.cell 7 (by simp)
  simp only [List.getElem_cons_zero, List.getElem_cons_succ] at c0 c1 c2 c3 c4 c5 c6 c7
  go_wp2_with fail
  refine (check_new W0).mono ?_
  rintro e w1 ⟨rfl, hb1⟩
  have k1 := k0.below hb1 k0.lt
  have r1 := r0.below hb1 r0.lt
  have hB1 := hB0.trans (hb1.mono hB0.size)
  clear k0 r0 hb1
  clear c0 c1 c2 c3 c4 c5 c6 c7
  have d0 := k1.cell 0 (by simp)
  have d1 := k1.cell 1 (by simp)
  have d2 := k1.cell 2 (by simp)
  have d3 := k1.cell 3 (by simp)
  have d4 := k1.cell 4 (by simp)
  have d5 := k1.cell 5 (by simp)
  have d6 := k1.cell 6 (by simp)
  have d7 := k1.cell 7 (by simp)
  simp only [List.getElem_cons_zero, List.getElem_cons_succ] at d0 d1 d2 d3 d4 d5 d6 d7
  go_wp2_with fail
  refine (newDecoder_any w1).mono ?_
  rintro e w2 ⟨⟨B, v, rfl, hD⟩, hb2⟩
  have r2 := r1.below hb2 r1.lt
  have hB2 := hB1.trans (hb2.mono hB1.size)
  have hz1 := hB1.size
  go_wp2_with fail
  refine (HT.out w2 B w1.heap.size v hD (hN.below hB2) (by omega) (by omega)).mono ?_
  rintro e w3 ⟨rfl, ⟨v3, hD3⟩, hb3⟩
  have r3 := r2.below hb3 r1.lt
  have hB3 := hB2.trans (hb3.mono hz1)
  go_wp2_with fail
  refine (whole_any w3 B w1.heap.size D v3 hD3).mono ?_
  rintro e w4 ⟨rfl, hb4⟩
  have r4 := r3.below hb4 r3.lt
  have hB4 := hB3.trans (hb4.mono hB3.size)
  have kR := (((((((r4.set 0 (.int .i64 (D.st : Int))).set 1 (.int .i64 (D.size : Int))).set 2 (.int .i64 (D.digits : Int))).set 3 (.int .i64 (D.left : Int))).set 4 (.string ⟨D.body.toArray⟩)).set 5 (.string ⟨D.line.toArray⟩)).set 6 (.int .i64 (D.lines : Int))).set 7 (.int .i64 (D.status : Int))
  simp only [List.set_cons_zero, List.set_cons_succ] at kR
  have hle : w.heap.size ≤ w.heap.size + 1 := by omega
  have hBR := (((((((hB4.setCell (p := ⟨w.heap.size + 1, 0, none⟩) hle (.int .i64 (D.st : Int))).setCell (p := ⟨w.heap.size + 1, 1, none⟩) hle (.int .i64 (D.size : Int))).setCell (p := ⟨w.heap.size + 1, 2, none⟩) hle (.int .i64 (D.digits : Int))).setCell (p := ⟨w.heap.size + 1, 3, none⟩) hle (.int .i64 (D.left : Int))).setCell (p := ⟨w.heap.size + 1, 4, none⟩) hle (.string ⟨D.body.toArray⟩)).setCell (p := ⟨w.heap.size + 1, 5, none⟩) hle (.string ⟨D.line.toArray⟩)).setCell (p := ⟨w.heap.size + 1, 6, none⟩) hle (.int .i64 (D.lines : Int))).setCell (p := ⟨w.heap.size + 1, 7, none⟩) hle (.int .i64 (D.status : Int))
  have x0 := r4.cell 0 (by simp)
  have x1 := r4.cell 1 (by simp)
  have x2 := r4.cell 2 (by simp)
  have x3 := r4.cell 3 (by simp)
  have x4 := r4.cell 4 (by simp)
  have x5 := r4.cell 5 (by simp)
  have x6 := r4.cell 6 (by simp)
  have x7 := r4.cell 7 (by simp)
  simp only [List.getElem_cons_zero, List.getElem_cons_succ] at x0 x1 x2 x3 x4 x5 x6 x7
  have f0 := r4.free 0
  have f1 := r4.free 1
  have f2 := r4.free 2
  have f3 := r4.free 3
  have f4 := r4.free 4
  have f5 := r4.free 5
  have f6 := r4.free 6
  have f7 := r4.free 7
  unfold decV
  go_wp2_with fail
  exact bodyPost_ret (feed_results kR Tryz.results12 _ rfl rfl rfl) rfl ⟨by rw [HV.out]; rfl, hBR⟩
/-- What Decode returns. -/
def dcdR (l : List UInt8) : List UInt8 × Nat × Nat :=
  let r := runD l dec0 0
  if r.1.st = 7 then (r.1.body, r.2, 200) else if r.1.st = 8 then ([], r.2, r.1.status) else (r.1.body, r.2, 0)
def dcdV (l : List UInt8) : Value := .tuple #[.string ⟨(dcdR l).1.toArray⟩, .int .i64 ((dcdR l).2.1 : Nat), .int .i64 ((dcdR l).2.2 : Nat)]
set_option maxHeartbeats 4000000 in
theorem decode_any (l : List UInt8) (hl : l.length < 1000000) (w : World) (hN : NTab w) :
    Calls Tryz.prog 6 #[.string ⟨l.toArray⟩] w fun e w' => e = .returned (dcdV l) ∧ Below w.heap.size w w' := by
  obtain ⟨D, n, hR⟩ : ∃ D n, runD l dec0 0 = (D, n) := ⟨_, _, rfl⟩
  have HF : Hid (∀ W, NTab W → Calls Tryz.prog 12 #[.agg #[.int .i64 0, .int .i64 0, .int .i64 0, .int .i64 0, .string ⟨#[]⟩, .string ⟨#[]⟩, .int .i64 0, .int .i64 0], .string ⟨l.toArray⟩] W fun e w' => e = .returned (.tuple #[decV D, .int .i64 (n : Nat), .int .i64 0]) ∧ Below W.heap.size W w') := Lib.hid fun W h => by
    have := feed_any l hl W h
    unfold feedV at this
    rw [hR] at this
    exact this
  have HV : Hid (dcdV l = if D.st = 7 then .tuple #[.string ⟨D.body.toArray⟩, .int .i64 (n : Nat), .int .i64 200] else if D.st = 8 then .tuple #[.string ⟨#[]⟩, .int .i64 (n : Nat), .int .i64 (D.status : Nat)] else .tuple #[.string ⟨D.body.toArray⟩, .int .i64 (n : Nat), .int .i64 0]) := Lib.hid (by
    unfold dcdV dcdR
    rw [hR]
    dsimp only
    split
    · rfl
    · split <;> rfl)
  clear hR
  unfold decV at HF
  have HN := Lib.hid hN
  clear hN
  by_cases h7 : D.st = 7
  · have e7 : ((D.st : Int) == 7) = true := by rw [beq_iff_eq]; omega
    have HV2 : Hid (dcdV l = .tuple #[.string ⟨D.body.toArray⟩, .int .i64 (n : Nat), .int .i64 200]) := Lib.hid (by rw [HV.out, if_pos h7])
    clear h7 HV
    go_enter Tryz.func6, Tryz.ntmps6
    go_wp2_with fail
    refine (new_any w).mono ?_
    rintro e w1 ⟨rfl, hb1⟩
    go_wp2_with fail
    refine (HF.out w1 (HN.out.below hb1)).mono ?_
    rintro e w2 ⟨rfl, hb2⟩
    have hB := hb1.trans (hb2.mono hb1.size)
    have hBA := hB.alloc hB.size (.cells #[.int .i64 (D.st : Int), .int .i64 (D.size : Int), .int .i64 (D.digits : Int), .int .i64 (D.left : Int), .string ⟨D.body.toArray⟩, .string ⟨D.line.toArray⟩, .int .i64 (D.lines : Int), .int .i64 (D.status : Int)] 34)
    set_option maxRecDepth 10000 in
    go_wp2_with fail
    go_ret3
    exact ⟨by rw [HV2.out]; rfl, hBA⟩
  · have e7 : ((D.st : Int) == 7) = false := by rw [beq_eq_false_iff_ne]; omega
    by_cases h8 : D.st = 8
    · have e8 : ((D.st : Int) == 8) = true := by rw [beq_iff_eq]; omega
      have HV2 : Hid (dcdV l = .tuple #[.string ⟨#[]⟩, .int .i64 (n : Nat), .int .i64 (D.status : Nat)]) := Lib.hid (by rw [HV.out, if_neg h7, if_pos h8])
      clear h7 h8 HV
      go_enter Tryz.func6, Tryz.ntmps6
      go_wp2_with fail
      refine (new_any w).mono ?_
      rintro e w1 ⟨rfl, hb1⟩
      go_wp2_with fail
      refine (HF.out w1 (HN.out.below hb1)).mono ?_
      rintro e w2 ⟨rfl, hb2⟩
      have hB := hb1.trans (hb2.mono hb1.size)
      have hBA := hB.alloc hB.size (.cells #[.int .i64 (D.st : Int), .int .i64 (D.size : Int), .int .i64 (D.digits : Int), .int .i64 (D.left : Int), .string ⟨D.body.toArray⟩, .string ⟨D.line.toArray⟩, .int .i64 (D.lines : Int), .int .i64 (D.status : Int)] 34)
      set_option maxRecDepth 10000 in
      go_wp2_with fail
      go_region
      all_goals
        go_wp2_with fail
        go_ret3
        exact ⟨by rw [HV2.out]; rfl, hBA.drew⟩
    · have e8 : ((D.st : Int) == 8) = false := by rw [beq_eq_false_iff_ne]; omega
      have HV2 : Hid (dcdV l = .tuple #[.string ⟨D.body.toArray⟩, .int .i64 (n : Nat), .int .i64 0]) := Lib.hid (by rw [HV.out, if_neg h7, if_neg h8])
      clear h7 h8 HV
      go_enter Tryz.func6, Tryz.ntmps6
      go_wp2_with fail
      refine (new_any w).mono ?_
      rintro e w1 ⟨rfl, hb1⟩
      go_wp2_with fail
      refine (HF.out w1 (HN.out.below hb1)).mono ?_
      rintro e w2 ⟨rfl, hb2⟩
      have hB := hb1.trans (hb2.mono hb1.size)
      have hBA := hB.alloc hB.size (.cells #[.int .i64 (D.st : Int), .int .i64 (D.size : Int), .int .i64 (D.digits : Int), .int .i64 (D.left : Int), .string ⟨D.body.toArray⟩, .string ⟨D.line.toArray⟩, .int .i64 (D.lines : Int), .int .i64 (D.status : Int)] 34)
      set_option maxRecDepth 10000 in
      go_wp2_with fail
      go_ret3
      exact ⟨by rw [HV2.out]; rfl, hBA⟩
set_option maxHeartbeats 4000000 in
theorem rest_mid (w : World) :
    Calls Tryz.prog 15 #[.agg #[.int .i64 2, .int .i64 0, .int .i64 0, .int .i64 3, .string ⟨#[97, 98]⟩, .string ⟨#[]⟩, .int .i64 0, .int .i64 0]] w fun e w' => e = .returned (.tuple #[.int .i64 2043, .int .i64 0]) ∧ Below w.heap.size w w' := by
  have k0 := CBlk.new 34 w [.int .i64 2, .int .i64 0, .int .i64 0, .int .i64 3, .string ⟨#[97, 98]⟩, .string ⟨#[]⟩, .int .i64 0, .int .i64 0]
  have hB0 := (Below.refl w.heap.size w).alloc (Nat.le_refl _) (.cells #[.int .i64 2, .int .i64 0, .int .i64 0, .int .i64 3, .string ⟨#[97, 98]⟩, .string ⟨#[]⟩, .int .i64 0, .int .i64 0] 34)
  have k0' : CBlk 34 (w.alloc (.cells #[.int .i64 2, .int .i64 0, .int .i64 0, .int .i64 3, .string ⟨#[97, 98]⟩, .string ⟨#[]⟩, .int .i64 0, .int .i64 0] 34)) w.heap.size [.int .i64 2, .int .i64 0, .int .i64 0, .int .i64 3, .string ⟨#[97, 98]⟩, .string ⟨#[]⟩, .int .i64 0, .int .i64 0] := k0
  go_enter Tryz.func15, Tryz.ntmps15
  go_wp2_with fail
  refine (check_mid _).mono ?_
  rintro e w1 ⟨rfl, hb1⟩
  have k1 := k0'.below hb1 k0'.lt
  have hB1 := hB0.trans (hb1.mono hB0.size)
  have c0 := k1.cell 0 (by simp)
  have c1 := k1.cell 1 (by simp)
  have c2 := k1.cell 2 (by simp)
  have c3 := k1.cell 3 (by simp)
  have c4 := k1.cell 4 (by simp)
  have c5 := k1.cell 5 (by simp)
  have c6 := k1.cell 6 (by simp)
  have c7 := k1.cell 7 (by simp)
  simp only [List.getElem_cons_zero, List.getElem_cons_succ] at c0 c1 c2 c3 c4 c5 c6 c7
  go_wp2_with fail
  go_ret2
  exact ⟨rfl, hB1⟩
end Go.Proofs.YtbafmiejgpgamaaGreatDoor
