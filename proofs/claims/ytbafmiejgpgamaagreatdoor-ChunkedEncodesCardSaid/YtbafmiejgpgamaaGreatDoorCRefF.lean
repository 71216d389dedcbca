/-
  The reference's Feed of a new decoder, and its Decode, for every text.
-/
import Derived.Test.YtbafmiejgpgamaaGreatDoorCRefT
import Derived.Test.YtbafmiejgpgamaaGreatDoorCFeed
namespace Go.Proofs.YtbafmiejgpgamaaGreatDoor
open Go.RowKit
attribute [local go_sem] ba_get
theorem refIn_any (n lo hi : Int) (w : World) :
    Calls Tryz.prog 22 #[.int .i64 n, .int .i64 lo, .int .i64 hi] w fun e w' => e = .returned (.bool (decide (lo ≤ n) && decide (n ≤ hi))) ∧ w = w' := by
  obtain ⟨p, hp⟩ : ∃ p, decide (lo ≤ n) = p := ⟨_, rfl⟩
  obtain ⟨q, hq⟩ : ∃ q, decide (n ≤ hi) = q := ⟨_, rfl⟩
  rw [hp, hq]
  cases p
  all_goals
    go_enter Tryz.func22, Tryz.ntmps22
    go_wp2_with fail
    go_ret
    exact ⟨rfl, rfl⟩
theorem refNew_any (w : World) :
    Calls Tryz.prog 19 #[] w fun e w' => e = .returned (.agg #[.int .i64 0, .int .i64 0, .int .i64 0, .int .i64 0, .string ⟨#[]⟩, .string ⟨#[]⟩, .int .i64 0, .int .i64 0]) ∧ Below w.heap.size w w' := by
  go_enter Tryz.func19, Tryz.ntmps19
  go_wp2_with fail
  refine bodyPost_ret (chunks_results (CBlk.new 34 w [.int .i64 0, .int .i64 0, .int .i64 0, .int .i64 0, .string ⟨#[]⟩, .string ⟨#[]⟩, .int .i64 0, .int .i64 0]) Tryz.results19 _ rfl) rfl ⟨rfl, ?_⟩
  go_grown
set_option maxHeartbeats 4000000 in
theorem refForm_new (w : World) :
    Calls Tryz.prog 39 #[.agg #[.int .i64 0, .int .i64 0, .int .i64 0, .int .i64 0, .string ⟨#[]⟩, .string ⟨#[]⟩, .int .i64 0, .int .i64 0]] w fun e w' => e = .returned (.bool true) ∧ Below w.heap.size w w' := by
  have he := fun W => eq_new W
  have hB0 : Below w.heap.size w ((w.alloc (.cells #[.int .i64 0, .int .i64 0, .int .i64 0, .int .i64 0, .string ⟨#[]⟩, .string ⟨#[]⟩, .int .i64 0, .int .i64 0] 34)).alloc (.cells #[.int .i64 0, .int .i64 0, .int .i64 0, .int .i64 0, .string ⟨#[]⟩, .string ⟨#[]⟩, .int .i64 0, .int .i64 0] 34)) := by go_grown
  go_enter Tryz.func39, Tryz.ntmps39
  set_option maxRecDepth 10000 in
  go_wp2_with fail
  refine wp_loop_rounds 1 ?_
  rw [rounds_succ]
  go_wp2_with fail
  go_ret
  exact ⟨rfl, hB0⟩
set_option maxHeartbeats 4000000 in
theorem refCheck_new (w : World) :
    Calls Tryz.prog 28 #[.agg #[.int .i64 0, .int .i64 0, .int .i64 0, .int .i64 0, .string ⟨#[]⟩, .string ⟨#[]⟩, .int .i64 0, .int .i64 0]] w fun e w' => e = .returned (.int .i64 0) ∧ Below w.heap.size w w' := by
  have hB0 : Below w.heap.size w (w.alloc (.cells #[.int .i64 0, .int .i64 0, .int .i64 0, .int .i64 0, .string ⟨#[]⟩, .string ⟨#[]⟩, .int .i64 0, .int .i64 0] 34)) := by go_grown
  have k0 := CBlk.new 34 w [.int .i64 0, .int .i64 0, .int .i64 0, .int .i64 0, .string ⟨#[]⟩, .string ⟨#[]⟩, .int .i64 0, .int .i64 0]
  go_enter Tryz.func28, Tryz.ntmps28
  go_wp2_with fail
  refine (refIn_any 0 0 8 _).mono ?_
  rintro e w' ⟨rfl, rfl⟩
  go_wp2_with fail
  refine (refIn_any 0 0 4294967295 _).mono ?_
  rintro e w' ⟨rfl, rfl⟩
  go_wp2_with fail
  refine (refIn_any 0 0 8 _).mono ?_
  rintro e w' ⟨rfl, rfl⟩
  go_wp2_with fail
  refine (refIn_any 0 0 2048 _).mono ?_
  rintro e w' ⟨rfl, rfl⟩
  go_wp2_with fail
  refine (refIn_any 0 0 32 _).mono ?_
  rintro e w' ⟨rfl, rfl⟩
  set_option maxRecDepth 10000 in
  go_wp2_with fail
  refine (refForm_new _).mono ?_
  rintro e w1 ⟨rfl, hb1⟩
  go_wp2_with fail
  go_ret
  exact ⟨rfl, hB0.trans (hb1.mono hB0.size)⟩
set_option maxHeartbeats 8000000 in
theorem refFeed_any (l : List UInt8) (hl : l.length < 1000000) (w : World) :
    Calls Tryz.prog 18 #[.agg #[.int .i64 0, .int .i64 0, .int .i64 0, .int .i64 0, .string ⟨#[]⟩, .string ⟨#[]⟩, .int .i64 0, .int .i64 0], .string ⟨l.toArray⟩] w fun e w' => e = .returned (feedV l) ∧ Below w.heap.size w w' := by
  obtain ⟨R, hR⟩ : ∃ R, runD l dec0 0 = R := ⟨_, rfl⟩
  have HV : Hid (feedV l = .tuple #[decV R.1, .int .i64 (R.2 : Nat), .int .i64 0]) := Lib.hid (by unfold feedV; rw [hR])
  have HR := Lib.hid hR
  clear hR
  have hB0 : Below w.heap.size w ((w.alloc (.cells #[.int .i64 0, .int .i64 0, .int .i64 0, .int .i64 0, .string ⟨#[]⟩, .string ⟨#[]⟩, .int .i64 0, .int .i64 0] 34)).alloc (.cells #[.int .i64 0, .int .i64 0, .int .i64 0, .int .i64 0, .string ⟨#[]⟩, .string ⟨#[]⟩, .int .i64 0, .int .i64 0] 34)) := by go_grown
  have k0 : CBlk 34 ((w.alloc (.cells #[.int .i64 0, .int .i64 0, .int .i64 0, .int .i64 0, .string ⟨#[]⟩, .string ⟨#[]⟩, .int .i64 0, .int .i64 0] 34)).alloc (.cells #[.int .i64 0, .int .i64 0, .int .i64 0, .int .i64 0, .string ⟨#[]⟩, .string ⟨#[]⟩, .int .i64 0, .int .i64 0] 34)) w.heap.size [.int .i64 0, .int .i64 0, .int .i64 0, .int .i64 0, .string ⟨#[]⟩, .string ⟨#[]⟩, .int .i64 0, .int .i64 0] := (CBlk.new 34 w [.int .i64 0, .int .i64 0, .int .i64 0, .int .i64 0, .string ⟨#[]⟩, .string ⟨#[]⟩, .int .i64 0, .int .i64 0]).alloc _
  have r0 : CBlk 34 ((w.alloc (.cells #[.int .i64 0, .int .i64 0, .int .i64 0, .int .i64 0, .string ⟨#[]⟩, .string ⟨#[]⟩, .int .i64 0, .int .i64 0] 34)).alloc (.cells #[.int .i64 0, .int .i64 0, .int .i64 0, .int .i64 0, .string ⟨#[]⟩, .string ⟨#[]⟩, .int .i64 0, .int .i64 0] 34)) (w.heap.size + 1) [.int .i64 0, .int .i64 0, .int .i64 0, .int .i64 0, .string ⟨#[]⟩, .string ⟨#[]⟩, .int .i64 0, .int .i64 0] := heap_alloc2_new w _ _
  go_enter Tryz.func18, Tryz.ntmps18
  set_option maxRecDepth 10000 in
  go_wp2_with fail
  refine (refCheck_new _).mono ?_
  rintro e w1 ⟨rfl, hb1⟩
  have k1 := k0.below hb1 k0.lt
  have r1 := r0.below hb1 r0.lt
  have hB1 := hB0.trans (hb1.mono hB0.size)
  clear k0 r0 hb1 hB0
  go_wp2_with fail
  go_loopw [8] (fun i wr => ∃ (k : Nat) (d : Dec), k ≤ l.length ∧ i = .int .i64 k ∧ Hid (runD (l.drop k) d k = R) ∧ Hid d.Ok ∧ CBlk 34 wr w.heap.size [.int .i64 (d.st : Int), .int .i64 (d.size : Int), .int .i64 (d.digits : Int), .int .i64 (d.left : Int), .string ⟨d.body.toArray⟩, .string ⟨d.line.toArray⟩, .int .i64 (d.lines : Int), .int .i64 (d.status : Int)] ∧ CBlk 34 wr (w.heap.size + 1) [.int .i64 0, .int .i64 0, .int .i64 0, .int .i64 0, .string ⟨#[]⟩, .string ⟨#[]⟩, .int .i64 0, .int .i64 0] ∧ Below w.heap.size w wr) (fun i _ => l.length - (intOf i).toNat)
  case atStart => exact ⟨0, dec0, Nat.zero_le _, rfl, Lib.hid (by rw [List.drop_zero]; exact HR.out), Lib.hid dec0_ok, k1, r1, hB1⟩
  case round =>
    clear k1 r1 hB1
    obtain ⟨k, d, hk, rfl, hr, hOk, k1, r1, hB1⟩ := hrel
    have c0 := k1.cell 0 (by simp)
    have c1 := k1.cell 1 (by simp)
    have c2 := k1.cell 2 (by simp)
    have c3 := k1.cell 3 (by simp)
    have c4 := k1.cell 4 (by simp)
    have c5 := k1.cell 5 (by simp)
    have c6 := k1.cell 6 (by simp)
    have c7 := k1.cell 7 (by simp)
    simp only [List.getElem_cons_zero, List.getElem_cons_succ] at c0 c1 c2 c3 c4 c5 c6 c7
    have f0 := k1.free 0
    have f1 := k1.free 1
    have f2 := k1.free 2
    have f3 := k1.free 3
    have f4 := k1.free 4
    have f5 := k1.free 5
    have f6 := k1.free 6
    have f7 := k1.free 7
    have x0 := r1.cell 0 (by simp)
    have x1 := r1.cell 1 (by simp)
    have x2 := r1.cell 2 (by simp)
    have x3 := r1.cell 3 (by simp)
    have x4 := r1.cell 4 (by simp)
    have x5 := r1.cell 5 (by simp)
    have x6 := r1.cell 6 (by simp)
    have x7 := r1.cell 7 (by simp)
    simp only [List.getElem_cons_zero, List.getElem_cons_succ] at x0 x1 x2 x3 x4 x5 x6 x7
    have y0 := r1.free 0
    have y1 := r1.free 1
    have y2 := r1.free 2
    have y3 := r1.free 3
    have y4 := r1.free 4
    have y5 := r1.free 5
    have y6 := r1.free 6
    have y7 := r1.free 7
    by_cases hlt : k < l.length
    · have a1 : decide ((k : Int) < (l.length : Int)) = true := decide_eq_true (by omega)
      have a2 : decide (k < l.length) = true := decide_eq_true hlt
      have HI := Lib.hid (refOver_any d wr)
      unfold decV at HI
      by_cases h7 : 7 ≤ d.st
      · have h8 := hOk.out.st
        have hov : (d.st == 7 || d.st == 8) = true := by
          rcases (show d.st = 7 ∨ d.st = 8 by omega) with e | e <;> rw [e] <;> rfl
        have hres : Hid (R = (d, k)) := Lib.hid (by rw [← hr.out, runD_at hlt, if_pos h7])
        rw [hov] at HI
        clear h7 h8 hov
        set_option maxRecDepth 10000 in
        go_wp2_with fail
        refine HI.out.mono ?_
        rintro e w2 ⟨rfl, hb2⟩
        have k2 := k1.below hb2 k1.lt
        have r2 := r1.below hb2 r1.lt
        have hB2 := hB1.trans (hb2.mono hB1.size)
        have hR8 := res8 r2 hB2 (by omega) d
        have p0 := k2.cell 0 (by simp)
        have p1 := k2.cell 1 (by simp)
        have p2 := k2.cell 2 (by simp)
        have p3 := k2.cell 3 (by simp)
        have p4 := k2.cell 4 (by simp)
        have p5 := k2.cell 5 (by simp)
        have p6 := k2.cell 6 (by simp)
        have p7 := k2.cell 7 (by simp)
        simp only [List.getElem_cons_zero, List.getElem_cons_succ] at p0 p1 p2 p3 p4 p5 p6 p7
        have q0 := r2.cell 0 (by simp)
        have q1 := r2.cell 1 (by simp)
        have q2 := r2.cell 2 (by simp)
        have q3 := r2.cell 3 (by simp)
        have q4 := r2.cell 4 (by simp)
        have q5 := r2.cell 5 (by simp)
        have q6 := r2.cell 6 (by simp)
        have q7 := r2.cell 7 (by simp)
        simp only [List.getElem_cons_zero, List.getElem_cons_succ] at q0 q1 q2 q3 q4 q5 q6 q7
        have s0 := r2.free 0
        have s1 := r2.free 1
        have s2 := r2.free 2
        have s3 := r2.free 3
        have s4 := r2.free 4
        have s5 := r2.free 5
        have s6 := r2.free 6
        have s7 := r2.free 7
        clear k1 r1
        go_wp2_with fail
        exact bodyPost_ret (feed_results hR8.1 Tryz.results18 _ rfl rfl rfl) rfl ⟨by rw [HV.out, hres.out]; rfl, hR8.2⟩
      · have hov : (d.st == 7 || d.st == 8) = false := by
          rw [Bool.or_eq_false_iff, beq_eq_false_iff_ne, beq_eq_false_iff_ne]; omega
        rw [hov] at HI
        have hnext : Hid (runD (l.drop (k + 1)) (stepD d l[k]) (k + 1) = R) := Lib.hid (by rw [← hr.out, runD_at hlt, if_neg h7])
        have hok2 : Hid (stepD d l[k]).Ok := Lib.hid (step_ok hOk.out (by omega) _)
        have HS := Lib.hid fun W => refStep_any d hOk.out (by omega) l[k] W
        unfold decV at HS
        obtain ⟨D, hD⟩ : ∃ D, stepD d l[k] = D := ⟨_, rfl⟩
        rw [hD] at hnext hok2 HS
        have hw1 : wrap64 ((k : Int) + 1) = (k : Int) + 1 := by unfold wrap64; omega
        clear h7 hov hD
        set_option maxRecDepth 10000 in
        go_wp2_with fail
        refine HI.out.mono ?_
        rintro e w2 ⟨rfl, hb2⟩
        have k2 := k1.below hb2 k1.lt
        have r2 := r1.below hb2 r1.lt
        have hB2 := hB1.trans (hb2.mono hB1.size)
        have p0 := k2.cell 0 (by simp)
        have p1 := k2.cell 1 (by simp)
        have p2 := k2.cell 2 (by simp)
        have p3 := k2.cell 3 (by simp)
        have p4 := k2.cell 4 (by simp)
        have p5 := k2.cell 5 (by simp)
        have p6 := k2.cell 6 (by simp)
        have p7 := k2.cell 7 (by simp)
        simp only [List.getElem_cons_zero, List.getElem_cons_succ] at p0 p1 p2 p3 p4 p5 p6 p7
        have s0 := k2.free 0
        have s1 := k2.free 1
        have s2 := k2.free 2
        have s3 := k2.free 3
        have s4 := k2.free 4
        have s5 := k2.free 5
        have s6 := k2.free 6
        have s7 := k2.free 7
        have HK : Hid (∀ w3, Below w2.heap.size w2 w3 → CBlk 34 w3 w.heap.size [.int .i64 (d.st : Int), .int .i64 (d.size : Int), .int .i64 (d.digits : Int), .int .i64 (d.left : Int), .string ⟨d.body.toArray⟩, .string ⟨d.line.toArray⟩, .int .i64 (d.lines : Int), .int .i64 (d.status : Int)]) := Lib.hid fun W hb => k2.below hb k2.lt
        have HEND : Hid (∀ w3, Below w2.heap.size w2 w3 → (∃ (k' : Nat) (d : Dec), k' ≤ l.length ∧ Value.int .i64 ((k : Int) + 1) = .int .i64 (k' : Int) ∧ Hid (runD (l.drop k') d k' = R) ∧ Hid d.Ok ∧ CBlk 34 ((((((((w3.setCell ⟨w.heap.size, 0, none⟩ (.int .i64 (D.st : Int))).setCell ⟨w.heap.size, 1, none⟩ (.int .i64 (D.size : Int))).setCell ⟨w.heap.size, 2, none⟩ (.int .i64 (D.digits : Int))).setCell ⟨w.heap.size, 3, none⟩ (.int .i64 (D.left : Int))).setCell ⟨w.heap.size, 4, none⟩ (.string ⟨D.body.toArray⟩)).setCell ⟨w.heap.size, 5, none⟩ (.string ⟨D.line.toArray⟩)).setCell ⟨w.heap.size, 6, none⟩ (.int .i64 (D.lines : Int))).setCell ⟨w.heap.size, 7, none⟩ (.int .i64 (D.status : Int))) w.heap.size [.int .i64 (d.st : Int), .int .i64 (d.size : Int), .int .i64 (d.digits : Int), .int .i64 (d.left : Int), .string ⟨d.body.toArray⟩, .string ⟨d.line.toArray⟩, .int .i64 (d.lines : Int), .int .i64 (d.status : Int)] ∧ CBlk 34 ((((((((w3.setCell ⟨w.heap.size, 0, none⟩ (.int .i64 (D.st : Int))).setCell ⟨w.heap.size, 1, none⟩ (.int .i64 (D.size : Int))).setCell ⟨w.heap.size, 2, none⟩ (.int .i64 (D.digits : Int))).setCell ⟨w.heap.size, 3, none⟩ (.int .i64 (D.left : Int))).setCell ⟨w.heap.size, 4, none⟩ (.string ⟨D.body.toArray⟩)).setCell ⟨w.heap.size, 5, none⟩ (.string ⟨D.line.toArray⟩)).setCell ⟨w.heap.size, 6, none⟩ (.int .i64 (D.lines : Int))).setCell ⟨w.heap.size, 7, none⟩ (.int .i64 (D.status : Int))) (w.heap.size + 1) [.int .i64 0, .int .i64 0, .int .i64 0, .int .i64 0, .string ⟨#[]⟩, .string ⟨#[]⟩, .int .i64 0, .int .i64 0] ∧ Below w.heap.size w ((((((((w3.setCell ⟨w.heap.size, 0, none⟩ (.int .i64 (D.st : Int))).setCell ⟨w.heap.size, 1, none⟩ (.int .i64 (D.size : Int))).setCell ⟨w.heap.size, 2, none⟩ (.int .i64 (D.digits : Int))).setCell ⟨w.heap.size, 3, none⟩ (.int .i64 (D.left : Int))).setCell ⟨w.heap.size, 4, none⟩ (.string ⟨D.body.toArray⟩)).setCell ⟨w.heap.size, 5, none⟩ (.string ⟨D.line.toArray⟩)).setCell ⟨w.heap.size, 6, none⟩ (.int .i64 (D.lines : Int))).setCell ⟨w.heap.size, 7, none⟩ (.int .i64 (D.status : Int)))) ∧ l.length - (intOf (.int .i64 ((k : Int) + 1))).toNat < l.length - (intOf (.int .i64 (k : Int))).toNat) := Lib.hid (by
          intro w3 hb
          have k3 := k2.below hb k2.lt
          have r3 := r2.below hb r2.lt
          have hB3 := hB2.trans (hb.mono hB2.size)
          have hD8 := res8 k3 hB3 (Nat.le_refl _) D
          have hne : w.heap.size ≠ w.heap.size + 1 := by omega
          exact ⟨⟨k + 1, D, by omega, by go_num, hnext, hok2, hD8.1, (((((((r3.other _ hne _).other _ hne _).other _ hne _).other _ hne _).other _ hne _).other _ hne _).other _ hne _).other _ hne _, hD8.2⟩, by simp [intOf]; omega⟩)
        clear k1 r1 k2 r2
        go_wp2_with fail
        go_region_with (refine (HS.out _).mono ?_; rintro e w3 ⟨rfl, hb3⟩; have hb4 : Below w2.heap.size w2 w3 := (Below.refl _ w2).drew.trans hb3; have k3 := HK.out w3 hb4; have q0 := k3.cell 0 (by simp); have q1 := k3.cell 1 (by simp); have q2 := k3.cell 2 (by simp); have q3 := k3.cell 3 (by simp); have q4 := k3.cell 4 (by simp); have q5 := k3.cell 5 (by simp); have q6 := k3.cell 6 (by simp); have q7 := k3.cell 7 (by simp); simp only [List.getElem_cons_zero, List.getElem_cons_succ] at q0 q1 q2 q3 q4 q5 q6 q7; have m0 := k3.free 0; have m1 := k3.free 1; have m2 := k3.free 2; have m3 := k3.free 3; have m4 := k3.free 4; have m5 := k3.free 5; have m6 := k3.free 6; have m7 := k3.free 7)
        all_goals
          go_wp2_with fail
          exact HEND.out w3 hb4
    · have a1 : decide ((k : Int) < (l.length : Int)) = false := decide_eq_false (by omega)
      have a2 : decide (k < l.length) = false := decide_eq_false hlt
      obtain rfl : k = l.length := by omega
      have hres : Hid (R = (d, l.length)) := Lib.hid (by rw [← hr.out, List.drop_length]; rfl)
      clear hr
      have hR8 := res8 r1 hB1 (by omega) d
      go_wp2_with fail
      exact bodyPost_ret (feed_results hR8.1 Tryz.results18 _ rfl rfl rfl) rfl ⟨by rw [HV.out, hres.out]; rfl, hR8.2⟩
set_option maxHeartbeats 4000000 in
theorem refDecode_any (l : List UInt8) (hl : l.length < 1000000) (w : World) :
    Calls Tryz.prog 7 #[.string ⟨l.toArray⟩] w fun e w' => e = .returned (dcdV l) ∧ Below w.heap.size w w' := by
  obtain ⟨D, n, hR⟩ : ∃ D n, runD l dec0 0 = (D, n) := ⟨_, _, rfl⟩
  have HF : Hid (∀ W, Calls Tryz.prog 18 #[.agg #[.int .i64 0, .int .i64 0, .int .i64 0, .int .i64 0, .string ⟨#[]⟩, .string ⟨#[]⟩, .int .i64 0, .int .i64 0], .string ⟨l.toArray⟩] W fun e w' => e = .returned (.tuple #[decV D, .int .i64 (n : Nat), .int .i64 0]) ∧ Below W.heap.size W w') := Lib.hid fun W => by
    have := refFeed_any l hl W
    unfold feedV at this
    rw [hR] at this
    exact this
  have HV : Hid (dcdV l = if D.st = 7 then .tuple #[.string ⟨D.body.toArray⟩, .int .i64 (n : Nat), .int .i64 200] else if D.st = 8 then .tuple #[.string ⟨#[]⟩, .int .i64 (n : Nat), .int .i64 (D.status : Nat)] else .tuple #[.string ⟨D.body.toArray⟩, .int .i64 (n : Nat), .int .i64 0]) := Lib.hid (by
    unfold dcdV dcdR
    rw [hR]
    dsimp only
    split
    · rfl
    · split <;> rfl)
  clear hR
  unfold decV at HF
  by_cases h7 : D.st = 7
  · have e7 : ((D.st : Int) == 7) = true := by rw [beq_iff_eq]; omega
    have HV2 : Hid (dcdV l = .tuple #[.string ⟨D.body.toArray⟩, .int .i64 (n : Nat), .int .i64 200]) := Lib.hid (by rw [HV.out, if_pos h7])
    clear h7 HV
    go_enter Tryz.func7, Tryz.ntmps7
    go_wp2_with fail
    refine (refNew_any w).mono ?_
    rintro e w1 ⟨rfl, hb1⟩
    go_wp2_with fail
    refine (HF.out w1).mono ?_
    rintro e w2 ⟨rfl, hb2⟩
    have hB := hb1.trans (hb2.mono hb1.size)
    have hBA := hB.alloc hB.size (.cells #[.int .i64 (D.st : Int), .int .i64 (D.size : Int), .int .i64 (D.digits : Int), .int .i64 (D.left : Int), .string ⟨D.body.toArray⟩, .string ⟨D.line.toArray⟩, .int .i64 (D.lines : Int), .int .i64 (D.status : Int)] 34)
    set_option maxRecDepth 10000 in
    go_wp2_with fail
    go_ret3
    exact ⟨by rw [HV2.out]; rfl, hBA⟩
  · have e7 : ((D.st : Int) == 7) = false := by rw [beq_eq_false_iff_ne]; omega
    by_cases h8 : D.st = 8
    · have e8 : ((D.st : Int) == 8) = true := by rw [beq_iff_eq]; omega
      have HV2 : Hid (dcdV l = .tuple #[.string ⟨#[]⟩, .int .i64 (n : Nat), .int .i64 (D.status : Nat)]) := Lib.hid (by rw [HV.out, if_neg h7, if_pos h8])
      clear h7 h8 HV
      go_enter Tryz.func7, Tryz.ntmps7
      go_wp2_with fail
      refine (refNew_any w).mono ?_
      rintro e w1 ⟨rfl, hb1⟩
      go_wp2_with fail
      refine (HF.out w1).mono ?_
      rintro e w2 ⟨rfl, hb2⟩
      have hB := hb1.trans (hb2.mono hb1.size)
      have hBA := hB.alloc hB.size (.cells #[.int .i64 (D.st : Int), .int .i64 (D.size : Int), .int .i64 (D.digits : Int), .int .i64 (D.left : Int), .string ⟨D.body.toArray⟩, .string ⟨D.line.toArray⟩, .int .i64 (D.lines : Int), .int .i64 (D.status : Int)] 34)
      set_option maxRecDepth 10000 in
      go_wp2_with fail
      go_region
      all_goals
        go_wp2_with fail
        go_ret3
        exact ⟨by rw [HV2.out]; rfl, hBA.drew⟩
    · have e8 : ((D.st : Int) == 8) = false := by rw [beq_eq_false_iff_ne]; omega
      have HV2 : Hid (dcdV l = .tuple #[.string ⟨D.body.toArray⟩, .int .i64 (n : Nat), .int .i64 0]) := Lib.hid (by rw [HV.out, if_neg h7, if_neg h8])
      clear h7 h8 HV
      go_enter Tryz.func7, Tryz.ntmps7
      go_wp2_with fail
      refine (refNew_any w).mono ?_
      rintro e w1 ⟨rfl, hb1⟩
      go_wp2_with fail
      refine (HF.out w1).mono ?_
      rintro e w2 ⟨rfl, hb2⟩
      have hB := hb1.trans (hb2.mono hb1.size)
      have hBA := hB.alloc hB.size (.cells #[.int .i64 (D.st : Int), .int .i64 (D.size : Int), .int .i64 (D.digits : Int), .int .i64 (D.left : Int), .string ⟨D.body.toArray⟩, .string ⟨D.line.toArray⟩, .int .i64 (D.lines : Int), .int .i64 (D.status : Int)] 34)
      set_option maxRecDepth 10000 in
      go_wp2_with fail
      go_ret3
      exact ⟨by rw [HV2.out]; rfl, hBA⟩
end Go.Proofs.YtbafmiejgpgamaaGreatDoor
