/-
  The reference's step of a decoder: what a byte makes of it.
-/
import Derived.Test.YtbafmiejgpgamaaGreatDoorCRefS
namespace Go.Proofs.YtbafmiejgpgamaaGreatDoor
open Go.RowKit
set_option maxHeartbeats 8000000 in
theorem refStep0_any (d : Dec) (ok : d.Ok) (hs : d.st = 0) (b : UInt8) (w : World) :
    Calls Tryz.prog 30 #[decV d, .int .u8 (b.toNat : Int)] w fun e w' => e = .returned (decV (st0 d b)) ∧ Below w.heap.size w w' := by
  have hlt := UInt8.toNat_lt b
  have HD := Lib.hid fun W => refDigit_any b.toNat hlt W
  have e0 : ((d.st : Int) == 0) = true := by rw [hs]; rfl
  have e1 : ((d.st : Int) == 1) = false := by rw [hs]; rfl
  have e2 : ((d.st : Int) == 2) = false := by rw [hs]; rfl
  have e3 : ((d.st : Int) == 3) = false := by rw [hs]; rfl
  have e4 : ((d.st : Int) == 4) = false := by rw [hs]; rfl
  have e5 : ((d.st : Int) == 5) = false := by rw [hs]; rfl
  have e6 : ((d.st : Int) == 6) = false := by rw [hs]; rfl
  have k0 : CBlk 34 ((w.alloc (.cells #[.int .i64 (d.st : Int), .int .i64 (d.size : Int), .int .i64 (d.digits : Int), .int .i64 (d.left : Int), .string ⟨d.body.toArray⟩, .string ⟨d.line.toArray⟩, .int .i64 (d.lines : Int), .int .i64 (d.status : Int)] 34)).alloc (.cells #[.int .i64 0, .int .i64 0, .int .i64 0, .int .i64 0, .string ⟨#[]⟩, .string ⟨#[]⟩, .int .i64 0, .int .i64 0] 34)) w.heap.size [.int .i64 (d.st : Int), .int .i64 (d.size : Int), .int .i64 (d.digits : Int), .int .i64 (d.left : Int), .string ⟨d.body.toArray⟩, .string ⟨d.line.toArray⟩, .int .i64 (d.lines : Int), .int .i64 (d.status : Int)] := (CBlk.new 34 w [.int .i64 (d.st : Int), .int .i64 (d.size : Int), .int .i64 (d.digits : Int), .int .i64 (d.left : Int), .string ⟨d.body.toArray⟩, .string ⟨d.line.toArray⟩, .int .i64 (d.lines : Int), .int .i64 (d.status : Int)]).alloc _
  have r0 : CBlk 34 ((w.alloc (.cells #[.int .i64 (d.st : Int), .int .i64 (d.size : Int), .int .i64 (d.digits : Int), .int .i64 (d.left : Int), .string ⟨d.body.toArray⟩, .string ⟨d.line.toArray⟩, .int .i64 (d.lines : Int), .int .i64 (d.status : Int)] 34)).alloc (.cells #[.int .i64 0, .int .i64 0, .int .i64 0, .int .i64 0, .string ⟨#[]⟩, .string ⟨#[]⟩, .int .i64 0, .int .i64 0] 34)) (w.heap.size + 1) [.int .i64 0, .int .i64 0, .int .i64 0, .int .i64 0, .string ⟨#[]⟩, .string ⟨#[]⟩, .int .i64 0, .int .i64 0] := heap_alloc2_new w _ _
  have hB0 : Below w.heap.size w ((w.alloc (.cells #[.int .i64 (d.st : Int), .int .i64 (d.size : Int), .int .i64 (d.digits : Int), .int .i64 (d.left : Int), .string ⟨d.body.toArray⟩, .string ⟨d.line.toArray⟩, .int .i64 (d.lines : Int), .int .i64 (d.status : Int)] 34)).alloc (.cells #[.int .i64 0, .int .i64 0, .int .i64 0, .int .i64 0, .string ⟨#[]⟩, .string ⟨#[]⟩, .int .i64 0, .int .i64 0] 34)) := by go_grown
  cases hb : isD true b
  · have hval := valN_no hb
    rw [hval] at HD
    have hA : ¬ (isD true b = true ∧ d.digits < 8) := fun h => by rw [hb] at h; cases h.1
    by_cases h13 : b.toNat = 13
    · by_cases h0 : 0 < d.digits
      · have HS : Hid (st0 d b = { d with st := 1 }) := Lib.hid (by unfold st0; rw [if_neg hA, if_pos ⟨h13, h0⟩])
        have hdg : decide ((0 : Int) < (d.digits : Int)) = true := decide_eq_true (by omega)
        have hdgN : decide (0 < d.digits) = true := decide_eq_true h0
        have e13' : ((b.toNat : Int) == 13) = true := by rw [beq_iff_eq]; omega
        clear hb hval hA h13 h0
        unfold decV
        clear hs
        go_enter Tryz.func30, Tryz.ntmps30
        set_option maxRecDepth 10000 in
        go_wp2_with fail
        refine (HD.out _).mono ?_
        rintro e w' ⟨rfl, rfl⟩
        set_option maxRecDepth 10000 in
        go_wp2_with fail
        refine bodyPost_ret (chunks_results (B := w.heap.size + 1) (heap_alloc2_new w _ _) Tryz.results30 _ rfl) rfl ⟨by first | (rw [HS.out]; rfl) | rw [HS.out], ?_⟩
        go_grown
      · have HS : Hid (st0 d b = d.bad 400) := Lib.hid (by unfold st0; rw [if_neg hA, if_neg (fun h => h0 h.2)])
        have hdg : decide ((0 : Int) < (d.digits : Int)) = false := decide_eq_false (by omega)
        have hdgN : decide (0 < d.digits) = false := decide_eq_false h0
        have e13' : ((b.toNat : Int) == 13) = true := by rw [beq_iff_eq]; omega
        clear hb hval hA h13 h0
        unfold decV
        clear hs
        go_enter Tryz.func30, Tryz.ntmps30
        set_option maxRecDepth 10000 in
        go_wp2_with fail
        refine (HD.out _).mono ?_
        rintro e w' ⟨rfl, rfl⟩
        set_option maxRecDepth 10000 in
        go_wp2_with fail
        refine (refBad_any d 400 _).mono ?_
        rintro e w1 ⟨rfl, hb1⟩
        have r1 := r0.below hb1 r0.lt
        have hB1 := hB0.trans (hb1.mono hB0.size)
        have hR := res8 r1 hB1 (by omega) (d.bad 400)
        have x0 := r1.cell 0 (by simp)
        have x1 := r1.cell 1 (by simp)
        have x2 := r1.cell 2 (by simp)
        have x3 := r1.cell 3 (by simp)
        have x4 := r1.cell 4 (by simp)
        have x5 := r1.cell 5 (by simp)
        have x6 := r1.cell 6 (by simp)
        have x7 := r1.cell 7 (by simp)
        simp only [List.getElem_cons_zero, List.getElem_cons_succ] at x0 x1 x2 x3 x4 x5 x6 x7
        have y0 := r1.free 0
        have y1 := r1.free 1
        have y2 := r1.free 2
        have y3 := r1.free 3
        have y4 := r1.free 4
        have y5 := r1.free 5
        have y6 := r1.free 6
        have y7 := r1.free 7
        unfold decV
        go_wp2_with fail
        exact bodyPost_ret (chunks_results hR.1 Tryz.results30 _ rfl) rfl ⟨by rw [HS.out], hR.2⟩
    · have HS : Hid (st0 d b = d.bad 400) := Lib.hid (by unfold st0; rw [if_neg hA, if_neg (fun h => h13 h.1)])
      have e13' : ((b.toNat : Int) == 13) = false := by rw [beq_eq_false_iff_ne]; omega
      clear hb hval hA h13
      unfold decV
      clear hs
      go_enter Tryz.func30, Tryz.ntmps30
      set_option maxRecDepth 10000 in
      go_wp2_with fail
      refine (HD.out _).mono ?_
      rintro e w' ⟨rfl, rfl⟩
      set_option maxRecDepth 10000 in
      go_wp2_with fail
      refine (refBad_any d 400 _).mono ?_
      rintro e w1 ⟨rfl, hb1⟩
      have r1 := r0.below hb1 r0.lt
      have hB1 := hB0.trans (hb1.mono hB0.size)
      have hR := res8 r1 hB1 (by omega) (d.bad 400)
      have x0 := r1.cell 0 (by simp)
      have x1 := r1.cell 1 (by simp)
      have x2 := r1.cell 2 (by simp)
      have x3 := r1.cell 3 (by simp)
      have x4 := r1.cell 4 (by simp)
      have x5 := r1.cell 5 (by simp)
      have x6 := r1.cell 6 (by simp)
      have x7 := r1.cell 7 (by simp)
      simp only [List.getElem_cons_zero, List.getElem_cons_succ] at x0 x1 x2 x3 x4 x5 x6 x7
      have y0 := r1.free 0
      have y1 := r1.free 1
      have y2 := r1.free 2
      have y3 := r1.free 3
      have y4 := r1.free 4
      have y5 := r1.free 5
      have y6 := r1.free 6
      have y7 := r1.free 7
      unfold decV
      go_wp2_with fail
      exact bodyPost_ret (chunks_results hR.1 Tryz.results30 _ rfl) rfl ⟨by rw [HS.out], hR.2⟩
  · have hval := valN_yes hb
    rw [hval] at HD
    have hd0 : decide ((0 : Int) ≤ (digN true b : Int)) = true := decide_eq_true (by omega)
    have hg16 : digN true b < 16 := by have := digN_lt true b; unfold baseN at this; simpa using this
    have h13 : b.toNat ≠ 13 := fun e => by rw [isD13 e] at hb; cases hb
    by_cases h8 : d.digits < 8
    · have hsz := size_lt ok h8
      have HS : Hid (st0 d b = { d with size := 16 * d.size + digN true b, digits := d.digits + 1 }) := Lib.hid (by unfold st0; rw [if_pos ⟨hb, h8⟩])
      have hd8 : decide ((d.digits : Int) < 8) = true := decide_eq_true (by omega)
      have hd8N : decide (d.digits < 8) = true := decide_eq_true h8
      obtain ⟨g, hg⟩ : ∃ g, digN true b = g := ⟨_, rfl⟩
      rw [hg] at HD hd0 hg16 HS
      have w1 : wrap64 (16 * (d.size : Int)) = 16 * (d.size : Int) := by unfold wrap64; omega
      have w2 : wrap64 (16 * (d.size : Int) + (g : Int)) = ((16 * d.size + g : Nat) : Int) := by unfold wrap64; omega
      have w3 : wrap64 ((d.digits : Int) + 1) = ((d.digits + 1 : Nat) : Int) := by unfold wrap64; omega
      obtain ⟨M, hM⟩ : ∃ M, 16 * d.size + g = M := ⟨_, rfl⟩
      obtain ⟨N, hN⟩ : ∃ N, d.digits + 1 = N := ⟨_, rfl⟩
      rw [hM] at w2 HS
      rw [hN] at w3 HS
      clear hb hval h13 h8 hsz hg hg16 hM hN
      unfold decV
      clear hs
      go_enter Tryz.func30, Tryz.ntmps30
      set_option maxRecDepth 10000 in
      go_wp2_with fail
      refine (HD.out _).mono ?_
      rintro e w' ⟨rfl, rfl⟩
      set_option maxRecDepth 10000 in
      go_wp2_with fail
      refine bodyPost_ret (chunks_results (B := w.heap.size + 1) (heap_alloc2_new w _ _) Tryz.results30 _ rfl) rfl ⟨by first | (rw [HS.out]; rfl) | rw [HS.out], ?_⟩
      go_grown
    · have HS : Hid (st0 d b = d.bad 400) := Lib.hid (by unfold st0; rw [if_neg (fun h => h8 h.2), if_neg (fun h => h13 h.1)])
      have hd8 : decide ((d.digits : Int) < 8) = false := decide_eq_false (by omega)
      have hd8N : decide (d.digits < 8) = false := decide_eq_false h8
      have e13' : ((b.toNat : Int) == 13) = false := by rw [beq_eq_false_iff_ne]; omega
      clear hb hval h13 h8 hg16
      unfold decV
      clear hs
      go_enter Tryz.func30, Tryz.ntmps30
      set_option maxRecDepth 10000 in
      go_wp2_with fail
      refine (HD.out _).mono ?_
      rintro e w' ⟨rfl, rfl⟩
      set_option maxRecDepth 10000 in
      go_wp2_with fail
      refine (refBad_any d 400 _).mono ?_
      rintro e w1 ⟨rfl, hb1⟩
      have r1 := r0.below hb1 r0.lt
      have hB1 := hB0.trans (hb1.mono hB0.size)
      have hR := res8 r1 hB1 (by omega) (d.bad 400)
      have x0 := r1.cell 0 (by simp)
      have x1 := r1.cell 1 (by simp)
      have x2 := r1.cell 2 (by simp)
      have x3 := r1.cell 3 (by simp)
      have x4 := r1.cell 4 (by simp)
      have x5 := r1.cell 5 (by simp)
      have x6 := r1.cell 6 (by simp)
      have x7 := r1.cell 7 (by simp)
      simp only [List.getElem_cons_zero, List.getElem_cons_succ] at x0 x1 x2 x3 x4 x5 x6 x7
      have y0 := r1.free 0
      have y1 := r1.free 1
      have y2 := r1.free 2
      have y3 := r1.free 3
      have y4 := r1.free 4
      have y5 := r1.free 5
      have y6 := r1.free 6
      have y7 := r1.free 7
      unfold decV
      go_wp2_with fail
      exact bodyPost_ret (chunks_results hR.1 Tryz.results30 _ rfl) rfl ⟨by rw [HS.out], hR.2⟩
set_option maxHeartbeats 8000000 in
theorem refStep1_any (d : Dec) (ok : d.Ok) (hs : d.st = 1) (b : UInt8) (w : World) :
    Calls Tryz.prog 30 #[decV d, .int .u8 (b.toNat : Int)] w fun e w' => e = .returned (decV (st1 d b)) ∧ Below w.heap.size w w' := by
  have hlt := UInt8.toNat_lt b
  have HD := Lib.hid fun W => refDigit_any b.toNat hlt W
  have e0 : ((d.st : Int) == 0) = false := by rw [hs]; rfl
  have e1 : ((d.st : Int) == 1) = true := by rw [hs]; rfl
  have e2 : ((d.st : Int) == 2) = false := by rw [hs]; rfl
  have e3 : ((d.st : Int) == 3) = false := by rw [hs]; rfl
  have e4 : ((d.st : Int) == 4) = false := by rw [hs]; rfl
  have e5 : ((d.st : Int) == 5) = false := by rw [hs]; rfl
  have e6 : ((d.st : Int) == 6) = false := by rw [hs]; rfl
  have k0 : CBlk 34 ((w.alloc (.cells #[.int .i64 (d.st : Int), .int .i64 (d.size : Int), .int .i64 (d.digits : Int), .int .i64 (d.left : Int), .string ⟨d.body.toArray⟩, .string ⟨d.line.toArray⟩, .int .i64 (d.lines : Int), .int .i64 (d.status : Int)] 34)).alloc (.cells #[.int .i64 0, .int .i64 0, .int .i64 0, .int .i64 0, .string ⟨#[]⟩, .string ⟨#[]⟩, .int .i64 0, .int .i64 0] 34)) w.heap.size [.int .i64 (d.st : Int), .int .i64 (d.size : Int), .int .i64 (d.digits : Int), .int .i64 (d.left : Int), .string ⟨d.body.toArray⟩, .string ⟨d.line.toArray⟩, .int .i64 (d.lines : Int), .int .i64 (d.status : Int)] := (CBlk.new 34 w [.int .i64 (d.st : Int), .int .i64 (d.size : Int), .int .i64 (d.digits : Int), .int .i64 (d.left : Int), .string ⟨d.body.toArray⟩, .string ⟨d.line.toArray⟩, .int .i64 (d.lines : Int), .int .i64 (d.status : Int)]).alloc _
  have r0 : CBlk 34 ((w.alloc (.cells #[.int .i64 (d.st : Int), .int .i64 (d.size : Int), .int .i64 (d.digits : Int), .int .i64 (d.left : Int), .string ⟨d.body.toArray⟩, .string ⟨d.line.toArray⟩, .int .i64 (d.lines : Int), .int .i64 (d.status : Int)] 34)).alloc (.cells #[.int .i64 0, .int .i64 0, .int .i64 0, .int .i64 0, .string ⟨#[]⟩, .string ⟨#[]⟩, .int .i64 0, .int .i64 0] 34)) (w.heap.size + 1) [.int .i64 0, .int .i64 0, .int .i64 0, .int .i64 0, .string ⟨#[]⟩, .string ⟨#[]⟩, .int .i64 0, .int .i64 0] := heap_alloc2_new w _ _
  have hB0 : Below w.heap.size w ((w.alloc (.cells #[.int .i64 (d.st : Int), .int .i64 (d.size : Int), .int .i64 (d.digits : Int), .int .i64 (d.left : Int), .string ⟨d.body.toArray⟩, .string ⟨d.line.toArray⟩, .int .i64 (d.lines : Int), .int .i64 (d.status : Int)] 34)).alloc (.cells #[.int .i64 0, .int .i64 0, .int .i64 0, .int .i64 0, .string ⟨#[]⟩, .string ⟨#[]⟩, .int .i64 0, .int .i64 0] 34)) := by go_grown
  obtain ⟨x, hx⟩ : ∃ x, valN true b.toNat = x := ⟨_, rfl⟩
  rw [hx] at HD
  clear hx
  by_cases h10 : b.toNat = 10
  · have HS : Hid (st1 d b = szD d) := Lib.hid (by unfold st1; rw [if_pos h10]; rfl)
    have e10' : ((b.toNat : Int) == 10) = true := by rw [beq_iff_eq]; omega
    have e13' : ((b.toNat : Int) == 13) = false := by rw [beq_eq_false_iff_ne]; omega
    clear h10
    unfold decV
    clear hs
    go_enter Tryz.func30, Tryz.ntmps30
    set_option maxRecDepth 10000 in
    go_wp2_with fail
    refine (HD.out _).mono ?_
    rintro e w' ⟨rfl, rfl⟩
    set_option maxRecDepth 10000 in
    go_wp2_with fail
    refine (refSized_any d ok _).mono ?_
    rintro e w1 ⟨rfl, hb1⟩
    have r1 := r0.below hb1 r0.lt
    have hB1 := hB0.trans (hb1.mono hB0.size)
    have hR := res8 r1 hB1 (by omega) (szD d)
    have x0 := r1.cell 0 (by simp)
    have x1 := r1.cell 1 (by simp)
    have x2 := r1.cell 2 (by simp)
    have x3 := r1.cell 3 (by simp)
    have x4 := r1.cell 4 (by simp)
    have x5 := r1.cell 5 (by simp)
    have x6 := r1.cell 6 (by simp)
    have x7 := r1.cell 7 (by simp)
    simp only [List.getElem_cons_zero, List.getElem_cons_succ] at x0 x1 x2 x3 x4 x5 x6 x7
    have y0 := r1.free 0
    have y1 := r1.free 1
    have y2 := r1.free 2
    have y3 := r1.free 3
    have y4 := r1.free 4
    have y5 := r1.free 5
    have y6 := r1.free 6
    have y7 := r1.free 7
    unfold decV
    go_wp2_with fail
    exact bodyPost_ret (chunks_results hR.1 Tryz.results30 _ rfl) rfl ⟨by rw [HS.out], hR.2⟩
  · have HS : Hid (st1 d b = d.bad 400) := Lib.hid (by unfold st1; rw [if_neg h10])
    have e10' : ((b.toNat : Int) == 10) = false := by rw [beq_eq_false_iff_ne]; omega
    clear h10
    unfold decV
    clear hs
    go_enter Tryz.func30, Tryz.ntmps30
    set_option maxRecDepth 10000 in
    go_wp2_with fail
    refine (HD.out _).mono ?_
    rintro e w' ⟨rfl, rfl⟩
    set_option maxRecDepth 10000 in
    go_wp2_with fail
    refine (refBad_any d 400 _).mono ?_
    rintro e w1 ⟨rfl, hb1⟩
    have r1 := r0.below hb1 r0.lt
    have hB1 := hB0.trans (hb1.mono hB0.size)
    have hR := res8 r1 hB1 (by omega) (d.bad 400)
    have x0 := r1.cell 0 (by simp)
    have x1 := r1.cell 1 (by simp)
    have x2 := r1.cell 2 (by simp)
    have x3 := r1.cell 3 (by simp)
    have x4 := r1.cell 4 (by simp)
    have x5 := r1.cell 5 (by simp)
    have x6 := r1.cell 6 (by simp)
    have x7 := r1.cell 7 (by simp)
    simp only [List.getElem_cons_zero, List.getElem_cons_succ] at x0 x1 x2 x3 x4 x5 x6 x7
    have y0 := r1.free 0
    have y1 := r1.free 1
    have y2 := r1.free 2
    have y3 := r1.free 3
    have y4 := r1.free 4
    have y5 := r1.free 5
    have y6 := r1.free 6
    have y7 := r1.free 7
    unfold decV
    go_wp2_with fail
    exact bodyPost_ret (chunks_results hR.1 Tryz.results30 _ rfl) rfl ⟨by rw [HS.out], hR.2⟩
set_option maxHeartbeats 8000000 in
theorem refStep2_any (d : Dec) (ok : d.Ok) (hs : d.st = 2) (b : UInt8) (w : World) :
    Calls Tryz.prog 30 #[decV d, .int .u8 (b.toNat : Int)] w fun e w' => e = .returned (decV (st2 d b)) ∧ Below w.heap.size w w' := by
  have hlt := UInt8.toNat_lt b
  have HD := Lib.hid fun W => refDigit_any b.toNat hlt W
  have e0 : ((d.st : Int) == 0) = false := by rw [hs]; rfl
  have e1 : ((d.st : Int) == 1) = false := by rw [hs]; rfl
  have e2 : ((d.st : Int) == 2) = true := by rw [hs]; rfl
  have e3 : ((d.st : Int) == 3) = false := by rw [hs]; rfl
  have e4 : ((d.st : Int) == 4) = false := by rw [hs]; rfl
  have e5 : ((d.st : Int) == 5) = false := by rw [hs]; rfl
  have e6 : ((d.st : Int) == 6) = false := by rw [hs]; rfl
  have k0 : CBlk 34 ((w.alloc (.cells #[.int .i64 (d.st : Int), .int .i64 (d.size : Int), .int .i64 (d.digits : Int), .int .i64 (d.left : Int), .string ⟨d.body.toArray⟩, .string ⟨d.line.toArray⟩, .int .i64 (d.lines : Int), .int .i64 (d.status : Int)] 34)).alloc (.cells #[.int .i64 0, .int .i64 0, .int .i64 0, .int .i64 0, .string ⟨#[]⟩, .string ⟨#[]⟩, .int .i64 0, .int .i64 0] 34)) w.heap.size [.int .i64 (d.st : Int), .int .i64 (d.size : Int), .int .i64 (d.digits : Int), .int .i64 (d.left : Int), .string ⟨d.body.toArray⟩, .string ⟨d.line.toArray⟩, .int .i64 (d.lines : Int), .int .i64 (d.status : Int)] := (CBlk.new 34 w [.int .i64 (d.st : Int), .int .i64 (d.size : Int), .int .i64 (d.digits : Int), .int .i64 (d.left : Int), .string ⟨d.body.toArray⟩, .string ⟨d.line.toArray⟩, .int .i64 (d.lines : Int), .int .i64 (d.status : Int)]).alloc _
  have r0 : CBlk 34 ((w.alloc (.cells #[.int .i64 (d.st : Int), .int .i64 (d.size : Int), .int .i64 (d.digits : Int), .int .i64 (d.left : Int), .string ⟨d.body.toArray⟩, .string ⟨d.line.toArray⟩, .int .i64 (d.lines : Int), .int .i64 (d.status : Int)] 34)).alloc (.cells #[.int .i64 0, .int .i64 0, .int .i64 0, .int .i64 0, .string ⟨#[]⟩, .string ⟨#[]⟩, .int .i64 0, .int .i64 0] 34)) (w.heap.size + 1) [.int .i64 0, .int .i64 0, .int .i64 0, .int .i64 0, .string ⟨#[]⟩, .string ⟨#[]⟩, .int .i64 0, .int .i64 0] := heap_alloc2_new w _ _
  have hB0 : Below w.heap.size w ((w.alloc (.cells #[.int .i64 (d.st : Int), .int .i64 (d.size : Int), .int .i64 (d.digits : Int), .int .i64 (d.left : Int), .string ⟨d.body.toArray⟩, .string ⟨d.line.toArray⟩, .int .i64 (d.lines : Int), .int .i64 (d.status : Int)] 34)).alloc (.cells #[.int .i64 0, .int .i64 0, .int .i64 0, .int .i64 0, .string ⟨#[]⟩, .string ⟨#[]⟩, .int .i64 0, .int .i64 0] 34)) := by go_grown
  obtain ⟨x, hx⟩ : ∃ x, valN true b.toNat = x := ⟨_, rfl⟩
  rw [hx] at HD
  clear hx
  have hl := ok.left hs
  have hbl := ok.body
  have s1 : ∀ w, (Op.stringOp .add ⟨d.body.toArray⟩ ⟨[b].toArray⟩).run Tryz.prog w = .ok (.string ⟨(d.body ++ [b]).toArray⟩) w := fun w => cstr_add d.body [b] (by unfold CSmall; simp; omega)
  have s2 : ∀ w, (Op.stringOp .add ⟨d.body.toArray⟩ ⟨#[b]⟩).run Tryz.prog w = .ok (.string ⟨(d.body ++ [b]).toArray⟩) w := s1
  obtain ⟨T, hT⟩ : ∃ T, d.body ++ [b] = T := ⟨_, rfl⟩
  rw [hT] at s1 s2
  have k3 := fun W o o' => byte1_text2 W o o' b
  obtain ⟨m, hm⟩ : ∃ m, d.left = m + 1 := ⟨d.left - 1, by omega⟩
  have hw2 : wrap64 ((d.left : Int) - 1) = (m : Int) := by unfold wrap64; omega
  by_cases hm0 : m = 0
  · have em : ((m : Int) == 0) = true := by rw [beq_iff_eq]; omega
    have HS : Hid (st2 d b = { d with st := 3, left := m, body := T }) := Lib.hid (by unfold st2; rw [hm, hm0, hT]; simp)
    clear hT hm hm0 hl hbl
    unfold decV
    clear hs
    go_enter Tryz.func30, Tryz.ntmps30
    set_option maxRecDepth 10000 in
    go_wp2_with fail
    refine (HD.out _).mono ?_
    rintro e w' ⟨rfl, rfl⟩
    set_option maxRecDepth 10000 in
    go_wp2_with fail
    refine bodyPost_ret (chunks_results (B := w.heap.size + 1) (CBlk.alloc (heap_alloc2_new w _ _) _) Tryz.results30 _ rfl) rfl ⟨by first | (rw [HS.out]; rfl) | rw [HS.out], ?_⟩
    go_grown
  · have em : ((m : Int) == 0) = false := by rw [beq_eq_false_iff_ne]; omega
    have HS : Hid (st2 d b = { d with left := m, body := T }) := Lib.hid (by unfold st2; rw [hm, hT, if_neg (by omega), ← hs]; simp)
    clear hT hm hm0 hl hbl
    unfold decV
    clear hs
    go_enter Tryz.func30, Tryz.ntmps30
    set_option maxRecDepth 10000 in
    go_wp2_with fail
    refine (HD.out _).mono ?_
    rintro e w' ⟨rfl, rfl⟩
    set_option maxRecDepth 10000 in
    go_wp2_with fail
    refine bodyPost_ret (chunks_results (B := w.heap.size + 1) (CBlk.alloc (heap_alloc2_new w _ _) _) Tryz.results30 _ rfl) rfl ⟨by first | (rw [HS.out]; rfl) | rw [HS.out], ?_⟩
    go_grown
set_option maxHeartbeats 8000000 in
theorem refStep3_any (d : Dec) (hs : d.st = 3) (b : UInt8) (w : World) :
    Calls Tryz.prog 30 #[decV d, .int .u8 (b.toNat : Int)] w fun e w' => e = .returned (decV (st3 d b)) ∧ Below w.heap.size w w' := by
  have hlt := UInt8.toNat_lt b
  have HD := Lib.hid fun W => refDigit_any b.toNat hlt W
  have e0 : ((d.st : Int) == 0) = false := by rw [hs]; rfl
  have e1 : ((d.st : Int) == 1) = false := by rw [hs]; rfl
  have e2 : ((d.st : Int) == 2) = false := by rw [hs]; rfl
  have e3 : ((d.st : Int) == 3) = true := by rw [hs]; rfl
  have e4 : ((d.st : Int) == 4) = false := by rw [hs]; rfl
  have e5 : ((d.st : Int) == 5) = false := by rw [hs]; rfl
  have e6 : ((d.st : Int) == 6) = false := by rw [hs]; rfl
  have k0 : CBlk 34 ((w.alloc (.cells #[.int .i64 (d.st : Int), .int .i64 (d.size : Int), .int .i64 (d.digits : Int), .int .i64 (d.left : Int), .string ⟨d.body.toArray⟩, .string ⟨d.line.toArray⟩, .int .i64 (d.lines : Int), .int .i64 (d.status : Int)] 34)).alloc (.cells #[.int .i64 0, .int .i64 0, .int .i64 0, .int .i64 0, .string ⟨#[]⟩, .string ⟨#[]⟩, .int .i64 0, .int .i64 0] 34)) w.heap.size [.int .i64 (d.st : Int), .int .i64 (d.size : Int), .int .i64 (d.digits : Int), .int .i64 (d.left : Int), .string ⟨d.body.toArray⟩, .string ⟨d.line.toArray⟩, .int .i64 (d.lines : Int), .int .i64 (d.status : Int)] := (CBlk.new 34 w [.int .i64 (d.st : Int), .int .i64 (d.size : Int), .int .i64 (d.digits : Int), .int .i64 (d.left : Int), .string ⟨d.body.toArray⟩, .string ⟨d.line.toArray⟩, .int .i64 (d.lines : Int), .int .i64 (d.status : Int)]).alloc _
  have r0 : CBlk 34 ((w.alloc (.cells #[.int .i64 (d.st : Int), .int .i64 (d.size : Int), .int .i64 (d.digits : Int), .int .i64 (d.left : Int), .string ⟨d.body.toArray⟩, .string ⟨d.line.toArray⟩, .int .i64 (d.lines : Int), .int .i64 (d.status : Int)] 34)).alloc (.cells #[.int .i64 0, .int .i64 0, .int .i64 0, .int .i64 0, .string ⟨#[]⟩, .string ⟨#[]⟩, .int .i64 0, .int .i64 0] 34)) (w.heap.size + 1) [.int .i64 0, .int .i64 0, .int .i64 0, .int .i64 0, .string ⟨#[]⟩, .string ⟨#[]⟩, .int .i64 0, .int .i64 0] := heap_alloc2_new w _ _
  have hB0 : Below w.heap.size w ((w.alloc (.cells #[.int .i64 (d.st : Int), .int .i64 (d.size : Int), .int .i64 (d.digits : Int), .int .i64 (d.left : Int), .string ⟨d.body.toArray⟩, .string ⟨d.line.toArray⟩, .int .i64 (d.lines : Int), .int .i64 (d.status : Int)] 34)).alloc (.cells #[.int .i64 0, .int .i64 0, .int .i64 0, .int .i64 0, .string ⟨#[]⟩, .string ⟨#[]⟩, .int .i64 0, .int .i64 0] 34)) := by go_grown
  obtain ⟨x, hx⟩ : ∃ x, valN true b.toNat = x := ⟨_, rfl⟩
  rw [hx] at HD
  clear hx
  by_cases h10 : b.toNat = 13
  · have HS : Hid (st3 d b = { d with st := 4 }) := Lib.hid (by unfold st3; rw [if_pos h10])
    have e13' : ((b.toNat : Int) == 13) = true := by rw [beq_iff_eq]; omega
    clear h10
    unfold decV
    clear hs
    go_enter Tryz.func30, Tryz.ntmps30
    set_option maxRecDepth 10000 in
    go_wp2_with fail
    refine (HD.out _).mono ?_
    rintro e w' ⟨rfl, rfl⟩
    set_option maxRecDepth 10000 in
    go_wp2_with fail
    refine bodyPost_ret (chunks_results (B := w.heap.size + 1) (heap_alloc2_new w _ _) Tryz.results30 _ rfl) rfl ⟨by first | (rw [HS.out]; rfl) | rw [HS.out], ?_⟩
    go_grown
  · have HS : Hid (st3 d b = d.bad 400) := Lib.hid (by unfold st3; rw [if_neg h10])
    have e13' : ((b.toNat : Int) == 13) = false := by rw [beq_eq_false_iff_ne]; omega
    clear h10
    unfold decV
    clear hs
    go_enter Tryz.func30, Tryz.ntmps30
    set_option maxRecDepth 10000 in
    go_wp2_with fail
    refine (HD.out _).mono ?_
    rintro e w' ⟨rfl, rfl⟩
    set_option maxRecDepth 10000 in
    go_wp2_with fail
    refine (refBad_any d 400 _).mono ?_
    rintro e w1 ⟨rfl, hb1⟩
    have r1 := r0.below hb1 r0.lt
    have hB1 := hB0.trans (hb1.mono hB0.size)
    have hR := res8 r1 hB1 (by omega) (d.bad 400)
    have x0 := r1.cell 0 (by simp)
    have x1 := r1.cell 1 (by simp)
    have x2 := r1.cell 2 (by simp)
    have x3 := r1.cell 3 (by simp)
    have x4 := r1.cell 4 (by simp)
    have x5 := r1.cell 5 (by simp)
    have x6 := r1.cell 6 (by simp)
    have x7 := r1.cell 7 (by simp)
    simp only [List.getElem_cons_zero, List.getElem_cons_succ] at x0 x1 x2 x3 x4 x5 x6 x7
    have y0 := r1.free 0
    have y1 := r1.free 1
    have y2 := r1.free 2
    have y3 := r1.free 3
    have y4 := r1.free 4
    have y5 := r1.free 5
    have y6 := r1.free 6
    have y7 := r1.free 7
    unfold decV
    go_wp2_with fail
    exact bodyPost_ret (chunks_results hR.1 Tryz.results30 _ rfl) rfl ⟨by rw [HS.out], hR.2⟩
set_option maxHeartbeats 8000000 in
theorem refStep4_any (d : Dec) (hs : d.st = 4) (b : UInt8) (w : World) :
    Calls Tryz.prog 30 #[decV d, .int .u8 (b.toNat : Int)] w fun e w' => e = .returned (decV (st4 d b)) ∧ Below w.heap.size w w' := by
  have hlt := UInt8.toNat_lt b
  have HD := Lib.hid fun W => refDigit_any b.toNat hlt W
  have e0 : ((d.st : Int) == 0) = false := by rw [hs]; rfl
  have e1 : ((d.st : Int) == 1) = false := by rw [hs]; rfl
  have e2 : ((d.st : Int) == 2) = false := by rw [hs]; rfl
  have e3 : ((d.st : Int) == 3) = false := by rw [hs]; rfl
  have e4 : ((d.st : Int) == 4) = true := by rw [hs]; rfl
  have e5 : ((d.st : Int) == 5) = false := by rw [hs]; rfl
  have e6 : ((d.st : Int) == 6) = false := by rw [hs]; rfl
  have k0 : CBlk 34 ((w.alloc (.cells #[.int .i64 (d.st : Int), .int .i64 (d.size : Int), .int .i64 (d.digits : Int), .int .i64 (d.left : Int), .string ⟨d.body.toArray⟩, .string ⟨d.line.toArray⟩, .int .i64 (d.lines : Int), .int .i64 (d.status : Int)] 34)).alloc (.cells #[.int .i64 0, .int .i64 0, .int .i64 0, .int .i64 0, .string ⟨#[]⟩, .string ⟨#[]⟩, .int .i64 0, .int .i64 0] 34)) w.heap.size [.int .i64 (d.st : Int), .int .i64 (d.size : Int), .int .i64 (d.digits : Int), .int .i64 (d.left : Int), .string ⟨d.body.toArray⟩, .string ⟨d.line.toArray⟩, .int .i64 (d.lines : Int), .int .i64 (d.status : Int)] := (CBlk.new 34 w [.int .i64 (d.st : Int), .int .i64 (d.size : Int), .int .i64 (d.digits : Int), .int .i64 (d.left : Int), .string ⟨d.body.toArray⟩, .string ⟨d.line.toArray⟩, .int .i64 (d.lines : Int), .int .i64 (d.status : Int)]).alloc _
  have r0 : CBlk 34 ((w.alloc (.cells #[.int .i64 (d.st : Int), .int .i64 (d.size : Int), .int .i64 (d.digits : Int), .int .i64 (d.left : Int), .string ⟨d.body.toArray⟩, .string ⟨d.line.toArray⟩, .int .i64 (d.lines : Int), .int .i64 (d.status : Int)] 34)).alloc (.cells #[.int .i64 0, .int .i64 0, .int .i64 0, .int .i64 0, .string ⟨#[]⟩, .string ⟨#[]⟩, .int .i64 0, .int .i64 0] 34)) (w.heap.size + 1) [.int .i64 0, .int .i64 0, .int .i64 0, .int .i64 0, .string ⟨#[]⟩, .string ⟨#[]⟩, .int .i64 0, .int .i64 0] := heap_alloc2_new w _ _
  have hB0 : Below w.heap.size w ((w.alloc (.cells #[.int .i64 (d.st : Int), .int .i64 (d.size : Int), .int .i64 (d.digits : Int), .int .i64 (d.left : Int), .string ⟨d.body.toArray⟩, .string ⟨d.line.toArray⟩, .int .i64 (d.lines : Int), .int .i64 (d.status : Int)] 34)).alloc (.cells #[.int .i64 0, .int .i64 0, .int .i64 0, .int .i64 0, .string ⟨#[]⟩, .string ⟨#[]⟩, .int .i64 0, .int .i64 0] 34)) := by go_grown
  obtain ⟨x, hx⟩ : ∃ x, valN true b.toNat = x := ⟨_, rfl⟩
  rw [hx] at HD
  clear hx
  by_cases h10 : b.toNat = 10
  · have HS : Hid (st4 d b = { d with st := 0 }) := Lib.hid (by unfold st4; rw [if_pos h10])
    have e10' : ((b.toNat : Int) == 10) = true := by rw [beq_iff_eq]; omega
    clear h10
    unfold decV
    clear hs
    go_enter Tryz.func30, Tryz.ntmps30
    set_option maxRecDepth 10000 in
    go_wp2_with fail
    refine (HD.out _).mono ?_
    rintro e w' ⟨rfl, rfl⟩
    set_option maxRecDepth 10000 in
    go_wp2_with fail
    refine bodyPost_ret (chunks_results (B := w.heap.size + 1) (heap_alloc2_new w _ _) Tryz.results30 _ rfl) rfl ⟨by first | (rw [HS.out]; rfl) | rw [HS.out], ?_⟩
    go_grown
  · have HS : Hid (st4 d b = d.bad 400) := Lib.hid (by unfold st4; rw [if_neg h10])
    have e10' : ((b.toNat : Int) == 10) = false := by rw [beq_eq_false_iff_ne]; omega
    clear h10
    unfold decV
    clear hs
    go_enter Tryz.func30, Tryz.ntmps30
    set_option maxRecDepth 10000 in
    go_wp2_with fail
    refine (HD.out _).mono ?_
    rintro e w' ⟨rfl, rfl⟩
    set_option maxRecDepth 10000 in
    go_wp2_with fail
    refine (refBad_any d 400 _).mono ?_
    rintro e w1 ⟨rfl, hb1⟩
    have r1 := r0.below hb1 r0.lt
    have hB1 := hB0.trans (hb1.mono hB0.size)
    have hR := res8 r1 hB1 (by omega) (d.bad 400)
    have x0 := r1.cell 0 (by simp)
    have x1 := r1.cell 1 (by simp)
    have x2 := r1.cell 2 (by simp)
    have x3 := r1.cell 3 (by simp)
    have x4 := r1.cell 4 (by simp)
    have x5 := r1.cell 5 (by simp)
    have x6 := r1.cell 6 (by simp)
    have x7 := r1.cell 7 (by simp)
    simp only [List.getElem_cons_zero, List.getElem_cons_succ] at x0 x1 x2 x3 x4 x5 x6 x7
    have y0 := r1.free 0
    have y1 := r1.free 1
    have y2 := r1.free 2
    have y3 := r1.free 3
    have y4 := r1.free 4
    have y5 := r1.free 5
    have y6 := r1.free 6
    have y7 := r1.free 7
    unfold decV
    go_wp2_with fail
    exact bodyPost_ret (chunks_results hR.1 Tryz.results30 _ rfl) rfl ⟨by rw [HS.out], hR.2⟩
set_option maxHeartbeats 8000000 in
theorem refStep5_any (d : Dec) (ok : d.Ok) (hs : d.st = 5) (b : UInt8) (w : World) :
    Calls Tryz.prog 30 #[decV d, .int .u8 (b.toNat : Int)] w fun e w' => e = .returned (decV (st5 d b)) ∧ Below w.heap.size w w' := by
  have hlt := UInt8.toNat_lt b
  have HD := Lib.hid fun W => refDigit_any b.toNat hlt W
  have e0 : ((d.st : Int) == 0) = false := by rw [hs]; rfl
  have e1 : ((d.st : Int) == 1) = false := by rw [hs]; rfl
  have e2 : ((d.st : Int) == 2) = false := by rw [hs]; rfl
  have e3 : ((d.st : Int) == 3) = false := by rw [hs]; rfl
  have e4 : ((d.st : Int) == 4) = false := by rw [hs]; rfl
  have e5 : ((d.st : Int) == 5) = true := by rw [hs]; rfl
  have e6 : ((d.st : Int) == 6) = false := by rw [hs]; rfl
  have k0 : CBlk 34 ((w.alloc (.cells #[.int .i64 (d.st : Int), .int .i64 (d.size : Int), .int .i64 (d.digits : Int), .int .i64 (d.left : Int), .string ⟨d.body.toArray⟩, .string ⟨d.line.toArray⟩, .int .i64 (d.lines : Int), .int .i64 (d.status : Int)] 34)).alloc (.cells #[.int .i64 0, .int .i64 0, .int .i64 0, .int .i64 0, .string ⟨#[]⟩, .string ⟨#[]⟩, .int .i64 0, .int .i64 0] 34)) w.heap.size [.int .i64 (d.st : Int), .int .i64 (d.size : Int), .int .i64 (d.digits : Int), .int .i64 (d.left : Int), .string ⟨d.body.toArray⟩, .string ⟨d.line.toArray⟩, .int .i64 (d.lines : Int), .int .i64 (d.status : Int)] := (CBlk.new 34 w [.int .i64 (d.st : Int), .int .i64 (d.size : Int), .int .i64 (d.digits : Int), .int .i64 (d.left : Int), .string ⟨d.body.toArray⟩, .string ⟨d.line.toArray⟩, .int .i64 (d.lines : Int), .int .i64 (d.status : Int)]).alloc _
  have r0 : CBlk 34 ((w.alloc (.cells #[.int .i64 (d.st : Int), .int .i64 (d.size : Int), .int .i64 (d.digits : Int), .int .i64 (d.left : Int), .string ⟨d.body.toArray⟩, .string ⟨d.line.toArray⟩, .int .i64 (d.lines : Int), .int .i64 (d.status : Int)] 34)).alloc (.cells #[.int .i64 0, .int .i64 0, .int .i64 0, .int .i64 0, .string ⟨#[]⟩, .string ⟨#[]⟩, .int .i64 0, .int .i64 0] 34)) (w.heap.size + 1) [.int .i64 0, .int .i64 0, .int .i64 0, .int .i64 0, .string ⟨#[]⟩, .string ⟨#[]⟩, .int .i64 0, .int .i64 0] := heap_alloc2_new w _ _
  have hB0 : Below w.heap.size w ((w.alloc (.cells #[.int .i64 (d.st : Int), .int .i64 (d.size : Int), .int .i64 (d.digits : Int), .int .i64 (d.left : Int), .string ⟨d.body.toArray⟩, .string ⟨d.line.toArray⟩, .int .i64 (d.lines : Int), .int .i64 (d.status : Int)] 34)).alloc (.cells #[.int .i64 0, .int .i64 0, .int .i64 0, .int .i64 0, .string ⟨#[]⟩, .string ⟨#[]⟩, .int .i64 0, .int .i64 0] 34)) := by go_grown
  obtain ⟨x, hx⟩ : ∃ x, valN true b.toNat = x := ⟨_, rfl⟩
  rw [hx] at HD
  clear hx
  have HS : Hid (st5 d b = st5 d b) := Lib.hid rfl
  unfold decV
  clear hs
  go_enter Tryz.func30, Tryz.ntmps30
  set_option maxRecDepth 10000 in
  go_wp2_with fail
  refine (HD.out _).mono ?_
  rintro e w' ⟨rfl, rfl⟩
  set_option maxRecDepth 10000 in
  go_wp2_with fail
  refine (refTrailer_any d ok b _).mono ?_
  rintro e w1 ⟨rfl, hb1⟩
  have r1 := r0.below hb1 r0.lt
  have hB1 := hB0.trans (hb1.mono hB0.size)
  have hR := res8 r1 hB1 (by omega) (st5 d b)
  have x0 := r1.cell 0 (by simp)
  have x1 := r1.cell 1 (by simp)
  have x2 := r1.cell 2 (by simp)
  have x3 := r1.cell 3 (by simp)
  have x4 := r1.cell 4 (by simp)
  have x5 := r1.cell 5 (by simp)
  have x6 := r1.cell 6 (by simp)
  have x7 := r1.cell 7 (by simp)
  simp only [List.getElem_cons_zero, List.getElem_cons_succ] at x0 x1 x2 x3 x4 x5 x6 x7
  have y0 := r1.free 0
  have y1 := r1.free 1
  have y2 := r1.free 2
  have y3 := r1.free 3
  have y4 := r1.free 4
  have y5 := r1.free 5
  have y6 := r1.free 6
  have y7 := r1.free 7
  unfold decV
  go_wp2_with fail
  exact bodyPost_ret (chunks_results hR.1 Tryz.results30 _ rfl) rfl ⟨rfl, hR.2⟩
set_option maxHeartbeats 8000000 in
theorem refStep6_any (d : Dec) (ok : d.Ok) (hs : d.st = 6) (b : UInt8) (w : World) :
    Calls Tryz.prog 30 #[decV d, .int .u8 (b.toNat : Int)] w fun e w' => e = .returned (decV (st6 d b)) ∧ Below w.heap.size w w' := by
  have hlt := UInt8.toNat_lt b
  have HD := Lib.hid fun W => refDigit_any b.toNat hlt W
  have e0 : ((d.st : Int) == 0) = false := by rw [hs]; rfl
  have e1 : ((d.st : Int) == 1) = false := by rw [hs]; rfl
  have e2 : ((d.st : Int) == 2) = false := by rw [hs]; rfl
  have e3 : ((d.st : Int) == 3) = false := by rw [hs]; rfl
  have e4 : ((d.st : Int) == 4) = false := by rw [hs]; rfl
  have e5 : ((d.st : Int) == 5) = false := by rw [hs]; rfl
  have e6 : ((d.st : Int) == 6) = true := by rw [hs]; rfl
  have k0 : CBlk 34 ((w.alloc (.cells #[.int .i64 (d.st : Int), .int .i64 (d.size : Int), .int .i64 (d.digits : Int), .int .i64 (d.left : Int), .string ⟨d.body.toArray⟩, .string ⟨d.line.toArray⟩, .int .i64 (d.lines : Int), .int .i64 (d.status : Int)] 34)).alloc (.cells #[.int .i64 0, .int .i64 0, .int .i64 0, .int .i64 0, .string ⟨#[]⟩, .string ⟨#[]⟩, .int .i64 0, .int .i64 0] 34)) w.heap.size [.int .i64 (d.st : Int), .int .i64 (d.size : Int), .int .i64 (d.digits : Int), .int .i64 (d.left : Int), .string ⟨d.body.toArray⟩, .string ⟨d.line.toArray⟩, .int .i64 (d.lines : Int), .int .i64 (d.status : Int)] := (CBlk.new 34 w [.int .i64 (d.st : Int), .int .i64 (d.size : Int), .int .i64 (d.digits : Int), .int .i64 (d.left : Int), .string ⟨d.body.toArray⟩, .string ⟨d.line.toArray⟩, .int .i64 (d.lines : Int), .int .i64 (d.status : Int)]).alloc _
  have r0 : CBlk 34 ((w.alloc (.cells #[.int .i64 (d.st : Int), .int .i64 (d.size : Int), .int .i64 (d.digits : Int), .int .i64 (d.left : Int), .string ⟨d.body.toArray⟩, .string ⟨d.line.toArray⟩, .int .i64 (d.lines : Int), .int .i64 (d.status : Int)] 34)).alloc (.cells #[.int .i64 0, .int .i64 0, .int .i64 0, .int .i64 0, .string ⟨#[]⟩, .string ⟨#[]⟩, .int .i64 0, .int .i64 0] 34)) (w.heap.size + 1) [.int .i64 0, .int .i64 0, .int .i64 0, .int .i64 0, .string ⟨#[]⟩, .string ⟨#[]⟩, .int .i64 0, .int .i64 0] := heap_alloc2_new w _ _
  have hB0 : Below w.heap.size w ((w.alloc (.cells #[.int .i64 (d.st : Int), .int .i64 (d.size : Int), .int .i64 (d.digits : Int), .int .i64 (d.left : Int), .string ⟨d.body.toArray⟩, .string ⟨d.line.toArray⟩, .int .i64 (d.lines : Int), .int .i64 (d.status : Int)] 34)).alloc (.cells #[.int .i64 0, .int .i64 0, .int .i64 0, .int .i64 0, .string ⟨#[]⟩, .string ⟨#[]⟩, .int .i64 0, .int .i64 0] 34)) := by go_grown
  obtain ⟨x, hx⟩ : ∃ x, valN true b.toNat = x := ⟨_, rfl⟩
  rw [hx] at HD
  clear hx
  by_cases h10 : b.toNat = 10
  · have HS : Hid (st6 d b = endD d) := Lib.hid (by unfold st6; rw [if_pos h10]; rfl)
    have e10' : ((b.toNat : Int) == 10) = true := by rw [beq_iff_eq]; omega
    clear h10
    unfold decV
    clear hs
    go_enter Tryz.func30, Tryz.ntmps30
    set_option maxRecDepth 10000 in
    go_wp2_with fail
    refine (HD.out _).mono ?_
    rintro e w' ⟨rfl, rfl⟩
    set_option maxRecDepth 10000 in
    go_wp2_with fail
    refine (refEnded_any d ok _).mono ?_
    rintro e w1 ⟨rfl, hb1⟩
    have r1 := r0.below hb1 r0.lt
    have hB1 := hB0.trans (hb1.mono hB0.size)
    have hR := res8 r1 hB1 (by omega) (endD d)
    have x0 := r1.cell 0 (by simp)
    have x1 := r1.cell 1 (by simp)
    have x2 := r1.cell 2 (by simp)
    have x3 := r1.cell 3 (by simp)
    have x4 := r1.cell 4 (by simp)
    have x5 := r1.cell 5 (by simp)
    have x6 := r1.cell 6 (by simp)
    have x7 := r1.cell 7 (by simp)
    simp only [List.getElem_cons_zero, List.getElem_cons_succ] at x0 x1 x2 x3 x4 x5 x6 x7
    have y0 := r1.free 0
    have y1 := r1.free 1
    have y2 := r1.free 2
    have y3 := r1.free 3
    have y4 := r1.free 4
    have y5 := r1.free 5
    have y6 := r1.free 6
    have y7 := r1.free 7
    unfold decV
    go_wp2_with fail
    exact bodyPost_ret (chunks_results hR.1 Tryz.results30 _ rfl) rfl ⟨by rw [HS.out], hR.2⟩
  · have HS : Hid (st6 d b = d.bad 400) := Lib.hid (by unfold st6; rw [if_neg h10])
    have e10' : ((b.toNat : Int) == 10) = false := by rw [beq_eq_false_iff_ne]; omega
    clear h10
    unfold decV
    clear hs
    go_enter Tryz.func30, Tryz.ntmps30
    set_option maxRecDepth 10000 in
    go_wp2_with fail
    refine (HD.out _).mono ?_
    rintro e w' ⟨rfl, rfl⟩
    set_option maxRecDepth 10000 in
    go_wp2_with fail
    refine (refBad_any d 400 _).mono ?_
    rintro e w1 ⟨rfl, hb1⟩
    have r1 := r0.below hb1 r0.lt
    have hB1 := hB0.trans (hb1.mono hB0.size)
    have hR := res8 r1 hB1 (by omega) (d.bad 400)
    have x0 := r1.cell 0 (by simp)
    have x1 := r1.cell 1 (by simp)
    have x2 := r1.cell 2 (by simp)
    have x3 := r1.cell 3 (by simp)
    have x4 := r1.cell 4 (by simp)
    have x5 := r1.cell 5 (by simp)
    have x6 := r1.cell 6 (by simp)
    have x7 := r1.cell 7 (by simp)
    simp only [List.getElem_cons_zero, List.getElem_cons_succ] at x0 x1 x2 x3 x4 x5 x6 x7
    have y0 := r1.free 0
    have y1 := r1.free 1
    have y2 := r1.free 2
    have y3 := r1.free 3
    have y4 := r1.free 4
    have y5 := r1.free 5
    have y6 := r1.free 6
    have y7 := r1.free 7
    unfold decV
    go_wp2_with fail
    exact bodyPost_ret (chunks_results hR.1 Tryz.results30 _ rfl) rfl ⟨by rw [HS.out], hR.2⟩
theorem refStep_any (d : Dec) (ok : d.Ok) (h6 : d.st ≤ 6) (b : UInt8) (w : World) :
    Calls Tryz.prog 30 #[decV d, .int .u8 (b.toNat : Int)] w fun e w' => e = .returned (decV (stepD d b)) ∧ Below w.heap.size w w' := by
  unfold stepD
  match hs : d.st, h6 with
  | 0, _ => exact refStep0_any d ok hs b w
  | 1, _ => exact refStep1_any d ok hs b w
  | 2, _ => exact refStep2_any d ok hs b w
  | 3, _ => exact refStep3_any d hs b w
  | 4, _ => exact refStep4_any d hs b w
  | 5, _ => exact refStep5_any d ok hs b w
  | 6, _ => exact refStep6_any d ok hs b w
end Go.Proofs.YtbafmiejgpgamaaGreatDoor
