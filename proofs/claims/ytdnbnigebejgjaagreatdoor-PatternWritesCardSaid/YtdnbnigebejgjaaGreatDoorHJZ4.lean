/-
  The reference's walker: a node, given what it does with children; and both for whatever depth.
-/
import Derived.Test.YtdnbnigebejgjaaGreatDoorHJZ3
import Derived.Test.YtdnbnigebejgjaaGreatDoorHT4
namespace Go.Proofs.YtdnbnigebejgjaaGreatDoor
open Go.RowKit Go.Shelf
set_option maxHeartbeats 8000000 in
set_option maxRecDepth 100000 in
theorem node_step (L : List ND) (hL : L.length < 1000000) (b off cap B : Nat) (hbB : b ≠ B) (bb en : Bool) (g : Int) (m : Nat) (hK : KidsS L b off cap B bb en g m) : NodeS L b off cap B bb en g (m + 1) := by
  intro n nx gr nb W hm hnx hgr hN hb h
  obtain ⟨kd, tm, ⟨sa, sb, sc, sd⟩, gp, fs, nxt⟩ := n
  obtain ⟨z, hz⟩ : ∃ z, decide ((⟨sa, sb, sc, sd⟩ : WSet) = .empty) = z := ⟨_, rfl⟩
  have he : ∀ w, (Op.equalIn 10000 41 (.agg #[.int .u64 (sa.toNat : Int), .int .u64 (sb.toNat : Int), .int .u64 (sc.toNat : Int), .int .u64 (sd.toNat : Int)]) (.agg #[.int .u64 0, .int .u64 0, .int .u64 0, .int .u64 0])).run Tryz.prog w = .ok z w := fun w => by
    rw [← hz]
    exact eq_wsets ⟨sa, sb, sc, sd⟩ .empty w
  obtain ⟨q, hq⟩ : ∃ q, (tm == 0) = q := ⟨_, rfl⟩
  obtain ⟨r, hr⟩ : ∃ q, (gp == 0) = q := ⟨_, rfl⟩
  obtain ⟨pl, hpl⟩ : ∃ p, (z && q && r) = p := ⟨_, rfl⟩
  have hzz : z = true ↔ (⟨sa, sb, sc, sd⟩ : WSet) = .empty := by rw [← hz, decide_eq_true_eq]
  have hpp : pl = true ↔ (⟨sa, sb, sc, sd⟩ : WSet) = .empty ∧ tm = 0 ∧ gp = 0 := by
    rw [← hpl, ← hq, ← hr, Bool.and_eq_true, Bool.and_eq_true, hzz, beq_iff_eq, beq_iff_eq, and_assoc]
  have HZZ := Lib.hid hzz
  have HPP := Lib.hid hpp
  have HK := Lib.hid hK
  have x0 := CBlk.new 54 W [.int .i64 kd, .int .i64 tm, .int .u64 (sa.toNat : Int), .int .u64 (sb.toNat : Int), .int .u64 (sc.toNat : Int), .int .u64 (sd.toNat : Int), .int .i64 gp, .int .i64 fs, .int .i64 nxt]
  have hB0 : Below W.heap.size W (W.alloc (.cells #[.int .i64 kd, .int .i64 tm, .int .u64 (sa.toNat : Int), .int .u64 (sb.toNat : Int), .int .u64 (sc.toNat : Int), .int .u64 (sd.toNat : Int), .int .i64 gp, .int .i64 fs, .int .i64 nxt] 54)) := (Below.refl _ W).alloc (Nat.le_refl _) _
  unfold ndV ndC
  dsimp only
  go_enter Tryz.func62, Tryz.ntmps62
  go_upto_region 1 with fail
  have hw1 : WKB _ B _ bb en g nx gr false nb := CBlk.below h hB0 (CBlk.lt h)
  have hN1 := nds_grown hN (jgrown B hB0) hbB hb
  have hg1 := jgrown B hB0
  have hXB : some W.heap.size ≠ some B := by have := CBlk.lt h; intro e; injection e; omega
  generalize hW1 : W.alloc (.cells #[.int .i64 kd, .int .i64 tm, .int .u64 (sa.toNat : Int), .int .u64 (sb.toNat : Int), .int .u64 (sc.toNat : Int), .int .u64 (sd.toNat : Int), .int .i64 gp, .int .i64 fs, .int .i64 nxt] 54) = W1 at x0 hB0 hw1 hN1 hg1 ⊢
  have hb1 : b < W1.heap.size := Nat.lt_of_lt_of_le hb hB0.size
  obtain ⟨X, hX⟩ : ∃ X, W.heap.size = X := ⟨_, rfl⟩
  rw [hX] at x0 hXB
  rw [hX]
  clear hW1 hB0 hX hN h hK hz hzz hpp
  have HX0 := Lib.hid x0
  have HW1 := Lib.hid hw1
  have HN1 := Lib.hid hN1
  have HG1 := Lib.hid hg1
  obtain ⟨k0, k1, k2, k3, k4, k5, k6, k7, k8⟩ : W1.cell? ⟨X, 0, none⟩ = _ ∧ W1.cell? ⟨X, 1, none⟩ = _ ∧ W1.cell? ⟨X, 2, none⟩ = _ ∧ W1.cell? ⟨X, 3, none⟩ = _ ∧ W1.cell? ⟨X, 4, none⟩ = _ ∧ W1.cell? ⟨X, 5, none⟩ = _ ∧ W1.cell? ⟨X, 6, none⟩ = _ ∧ W1.cell? ⟨X, 7, none⟩ = _ ∧ W1.cell? ⟨X, 8, none⟩ = _ := ⟨x0.cell 0 (by simp), x0.cell 1 (by simp), x0.cell 2 (by simp), x0.cell 3 (by simp), x0.cell 4 (by simp), x0.cell 5 (by simp), x0.cell 6 (by simp), x0.cell 7 (by simp), x0.cell 8 (by simp)⟩
  clear x0 hw1 hN1 hg1 k8
  go_cut [4] (fun p wx => p = .bool pl ∧ wx = W1)
  case first =>
    subst hpl
    cases z <;> cases q <;> cases r
    all_goals
      go_wp2_with fail
      go_meet
      exact ⟨rfl, rfl⟩
  case rest =>
  obtain ⟨rfl, rfl⟩ := hcut
  have hlt := CBlk.lt HW1.out
  have c6 := CBlk.cell HW1.out 6 (by simp)
  have f6 := CBlk.free HW1.out 6
  by_cases h1 : kd = 1
  · subst h1
    have e1 : ((1 : Int) == 1) = true := rfl
    have fin : ∀ bd : Bool, (bd = false ↔ (⟨sa, sb, sc, sd⟩ : WSet) ≠ .empty ∧ 0 ≤ tm ∧ tm ≤ 3 ∧ gp = 0 ∧ fs = -1) → NodePost L (.slice (some ⟨b, off, none⟩) L.length cap) bb en g B nx gr nb ⟨1, tm, ⟨sa, sb, sc, sd⟩, gp, fs, nxt⟩ W (.returned (.tuple #[])) (wc.setCell ⟨B, 6, none⟩ (.bool bd)) := fun bd hbd =>
      ⟨nx, gr, bd, nb, rfl, HW1.out.bad bd, jgtrans HG1.out (jgset wc B 6 (.bool bd)), atom_res rfl hnx hgr hbd⟩
    have FIN := Lib.hid fin
    clear fin
    cases z with
    | true =>
      have hd := Lib.hid (FIN.out true ⟨fun h => (by cases h), fun h => absurd (HZZ.out.1 rfl) h.1⟩)
      go_wp2_with fail
      exact bodyPost_end (v := .tuple #[]) (by simp [Go.results, Tryz.results62, go_sem]) rfl hd.out
    | false =>
      have hz0 : (⟨sa, sb, sc, sd⟩ : WSet) ≠ .empty := fun h => by have := HZZ.out.2 h; cases this
      by_cases t1 : tm < 0
      · have e2 : decide (tm < 0) = true := decide_eq_true t1
        have hd := Lib.hid (FIN.out true ⟨fun h => (by cases h), fun h => absurd h.2.1 (by omega)⟩)
        go_wp2_with fail
        exact bodyPost_end (v := .tuple #[]) (by simp [Go.results, Tryz.results62, go_sem]) rfl hd.out
      have e2 : decide (tm < 0) = false := decide_eq_false t1
      by_cases t2 : 3 < tm
      · have e3 : decide (3 < tm) = true := decide_eq_true t2
        have hd := Lib.hid (FIN.out true ⟨fun h => (by cases h), fun h => absurd h.2.2.1 (by omega)⟩)
        go_wp2_with fail
        exact bodyPost_end (v := .tuple #[]) (by simp [Go.results, Tryz.results62, go_sem]) rfl hd.out
      have e3 : decide (3 < tm) = false := decide_eq_false t2
      by_cases t3 : gp = 0
      case neg =>
        have e4 : (gp != 0) = true := by simpa using t3
        have hd := Lib.hid (FIN.out true ⟨fun h => (by cases h), fun h => absurd h.2.2.2.1 t3⟩)
        go_wp2_with fail
        exact bodyPost_end (v := .tuple #[]) (by simp [Go.results, Tryz.results62, go_sem]) rfl hd.out
      have e4 : (gp != 0) = false := by simpa using t3
      have T3 := Lib.hid t3
      clear t3
      by_cases t4 : fs = -1
      case neg =>
        have e5 : (fs != -1) = true := by simpa using t4
        have hd := Lib.hid (FIN.out true ⟨fun h => (by cases h), fun h => absurd h.2.2.2.2 t4⟩)
        go_wp2_with fail
        exact bodyPost_end (v := .tuple #[]) (by simp [Go.results, Tryz.results62, go_sem]) rfl hd.out
      have e5 : (fs != -1) = false := by simpa using t4
      have hd := Lib.hid (FIN.out false ⟨fun _ => ⟨hz0, by omega, by omega, T3.out, t4⟩, fun _ => rfl⟩)
      clear t1 t2 t4 hz0
      go_wp2_with fail
      exact bodyPost_end (v := .tuple #[]) (by simp [Go.results, Tryz.results62, go_sem]) rfl hd.out
  have n1 : (kd == 1) = false := by simpa using h1
  by_cases h2 : kd = 2
  · subst h2
    have e2 : ((2 : Int) == 2) = true := rfl
    clear he hq hr hpl
    have HOF := Lib.hid (wof_any L hL b off cap B hbB bb en g fs 1 4 nx gr nb wc HN1.out hb1 HW1.out)
    go_wp2_with fail
    refine HOF.out.mono ?_
    rintro e w2 ⟨bd1, rfl, hw2, hof, hg2⟩
    have hg3 := Lib.hid (jgtrans HG1.out hg2)
    have x2 := HX0.out.kept hg2 hXB
    have k7' := x2.cell 7 (by simp)
    have HK2 := Lib.hid (HK.out nx gr bd1 nb fs w2 (by omega) hnx (by omega) (nds_grown HN1.out hg2 hbB hb1) (Nat.lt_of_lt_of_le hb1 hg2.size) hw2)
    have HOF2 := Lib.hid hof
    clear hw2 hof hg2 HOF k0 k1 k2 k3 k4 k5 k6 k7 c6 f6
    go_wp2_with fail
    refine HK2.out.mono ?_
    rintro e w3 ⟨mm, nx', gr', bd2, nb', rfl, hw3, hg4, hres⟩
    have hg5 := Lib.hid (jgtrans hg3.out hg4)
    have c6 := CBlk.cell hw3 6 (by simp)
    have f6 := CBlk.free hw3 6
    have hfin := Lib.hid (seq_res (n := ⟨2, tm, ⟨sa, sb, sc, sd⟩, gp, fs, nxt⟩) rfl HOF2.out hres HPP.out)
    have hw4 := Lib.hid hw3
    clear hg4 hres hw3 k7' HK2
    cases bd2 <;> cases pl
    all_goals
      go_wp2_with fail
      exact bodyPost_end (v := .tuple #[]) (by simp [Go.results, Tryz.results62, go_sem]) rfl ⟨nx', gr', _, nb', rfl, hw4.out.bad _, jgtrans hg5.out (jgset w3 B 6 _), hfin.out⟩
  have n2 : (kd == 2) = false := by simpa using h2
  by_cases h3 : kd = 3
  · subst h3
    have e3 : ((3 : Int) == 3) = true := rfl
    clear he hq hr hpl
    have HOF := Lib.hid (wof_any L hL b off cap B hbB bb en g fs 2 2 nx gr nb wc HN1.out hb1 HW1.out)
    go_wp2_with fail
    refine HOF.out.mono ?_
    rintro e w2 ⟨bd1, rfl, hw2, hof, hg2⟩
    have hg3 := Lib.hid (jgtrans HG1.out hg2)
    have x2 := HX0.out.kept hg2 hXB
    have k7' := x2.cell 7 (by simp)
    have HK2 := Lib.hid (HK.out nx gr bd1 nb fs w2 (by omega) hnx (by omega) (nds_grown HN1.out hg2 hbB hb1) (Nat.lt_of_lt_of_le hb1 hg2.size) hw2)
    have HOF2 := Lib.hid hof
    clear hw2 hof hg2 HOF k0 k1 k2 k3 k4 k5 k6 k7 c6 f6
    go_wp2_with fail
    refine HK2.out.mono ?_
    rintro e w3 ⟨mm, nx', gr', bd2, nb', rfl, hw3, hg4, hres⟩
    have hg5 := Lib.hid (jgtrans hg3.out hg4)
    have c6 := CBlk.cell hw3 6 (by simp)
    have f6 := CBlk.free hw3 6
    have hfin := Lib.hid (cho_res (n := ⟨3, tm, ⟨sa, sb, sc, sd⟩, gp, fs, nxt⟩) rfl HOF2.out hres HPP.out)
    have hw4 := Lib.hid hw3
    clear hg4 hres hw3 k7' HK2
    by_cases hm0 : mm = 0
    · have q0 : ((mm : Int) == 0) = true := by rw [hm0]; rfl
      have q0' : (mm == 0) = true := by rw [hm0]; rfl
      have hf2 := hfin.out
      rw [if_pos (.inl hm0)] at hf2
      have hf3 := Lib.hid hf2
      clear hf2 hm0
      go_wp2_with fail
      exact bodyPost_end (v := .tuple #[]) (by simp [Go.results, Tryz.results62, go_sem]) rfl ⟨nx', gr', true, nb', rfl, hw4.out.bad true, jgtrans hg5.out (jgset w3 B 6 _), hf3.out⟩
    · have q0 : ((mm : Int) == 0) = false := beq_eq_false_iff_ne.2 (by omega)
      have q0' : (mm == 0) = false := beq_eq_false_iff_ne.2 hm0
      cases pl with
      | false =>
        have hf2 := hfin.out
        rw [if_pos (.inr rfl)] at hf2
        have hf3 := Lib.hid hf2
        clear hf2 hm0
        go_wp2_with fail
        exact bodyPost_end (v := .tuple #[]) (by simp [Go.results, Tryz.results62, go_sem]) rfl ⟨nx', gr', true, nb', rfl, hw4.out.bad true, jgtrans hg5.out (jgset w3 B 6 _), hf3.out⟩
      | true =>
        have hf2 := hfin.out
        rw [if_neg (by rintro (h | h); exact hm0 h; cases h)] at hf2
        have hf3 := Lib.hid hf2
        clear hf2 hm0
        go_wp2_with fail
        exact bodyPost_end (v := .tuple #[]) (by simp [Go.results, Tryz.results62, go_sem]) rfl ⟨nx', gr', bd2, nb', rfl, hw4.out, hg5.out, hf3.out⟩
  have n3 : (kd == 3) = false := by simpa using h3
  by_cases h4 : kd = 4
  · subst h4
    have e4 : ((4 : Int) == 4) = true := rfl
    clear hq hr hpl
    have c5 := CBlk.cell HW1.out 5 (by simp)
    have f5 := CBlk.free HW1.out 5
    have c7 := CBlk.cell HW1.out 7 (by simp)
    have f7 := CBlk.free HW1.out 7
    have wg : IntKind.i64.wrap ((gr : Int) + 1) = (gr : Int) + 1 := jwrap (by omega) (by omega)
    have hne1 : X ≠ B := fun e => hXB (by rw [e])
    have hne2 : B ≠ X := fun e => hXB (by rw [e])
    obtain ⟨d, hd⟩ : ∃ d, decide (gp = (gr : Int) + 1) = d := ⟨_, rfl⟩
    have e5 : (gp != (gr : Int) + 1) = !d := by rw [← hd]; rfl
    have HD := Lib.hid hd
    clear hd
    obtain ⟨p4, hp4⟩ : ∃ p, (z && (decide (tm = 0) || decide (tm = 3))) = p := ⟨_, rfl⟩
    have hP4 : p4 = true ↔ (⟨sa, sb, sc, sd⟩ : WSet) = .empty ∧ (tm = 0 ∨ tm = 3) := by
      rw [← hp4, Bool.and_eq_true, HZZ.out, Bool.or_eq_true, decide_eq_true_eq, decide_eq_true_eq]
    have HP4 := Lib.hid hP4
    have hz4a : (p4 = true → z = true ∧ (tm = 0 ∨ tm = 3)) ∧ (p4 = false → z = true → ¬(tm = 0 ∨ tm = 3)) := by
      rw [← hp4]
      constructor
      · intro h
        simpa only [Bool.and_eq_true, Bool.or_eq_true, decide_eq_true_eq] using h
      · intro h h1 h2
        rw [h1, Bool.true_and, Bool.or_eq_false_iff, decide_eq_false_iff_not, decide_eq_false_iff_not] at h
        rcases h2 with h2 | h2
        · exact h.1 h2
        · exact h.2 h2
    have HZ4 := Lib.hid hz4a
    clear hP4 hp4 hz4a
    go_wp2_with fail
    cases nb with
    | true =>
      go_region
      all_goals
        go_wp2_with fail
        have hw5 := (HW1.out.grp (gr + 1)).num true
        rw [show ((gr + 1 : Nat) : Int) = (gr : Int) + 1 by omega] at hw5
        have hg5 := jgtrans (jgtrans HG1.out (jgset wc B 5 (.int .i64 ((gr : Int) + 1)))) (jgset _ B 7 (.bool true))
        have hw6 : WKB ((wc.setCell ⟨B, 5, none⟩ (.int .i64 ((gr : Int) + 1))).setCell ⟨B, 7, none⟩ (.bool true)).drew B (.slice (some ⟨b, off, none⟩) L.length cap) bb en g nx (gr + 1) false true := CBlk.drew hw5
        have hg6 := jgdrew hg5
        have hgx := jgdrew (jgtrans (jgset wc B 5 (.int .i64 ((gr : Int) + 1))) (jgset _ B 7 (.bool true)))
        have hN6 := nds_grown HN1.out hgx hbB hb1
        have hb6 : b < ((wc.setCell ⟨B, 5, none⟩ (.int .i64 ((gr : Int) + 1))).setCell ⟨B, 7, none⟩ (.bool true)).drew.heap.size := Nat.lt_of_lt_of_le hb1 hgx.size
        have x6 := HX0.out.kept hgx hXB
        have HOF := Lib.hid (wof_any L hL b off cap B hbB bb en g fs 3 3 nx (gr + 1) true _ hN6 hb6 hw6)
        clear hw5 hg5 hw6
        refine HOF.out.mono ?_
        rintro e w2 ⟨bd1, rfl, hw2, hof, hg2⟩
        have hg3 := Lib.hid (jgtrans hg6 hg2)
        have x2 := x6.kept hg2 hXB
        have k7' := x2.cell 7 (by simp)
        have HK2 := Lib.hid (HK.out nx (gr + 1) bd1 true fs w2 (by omega) hnx (by omega) (nds_grown hN6 hg2 hbB hb6) (Nat.lt_of_lt_of_le hb6 hg2.size) hw2)
        have HOF2 := Lib.hid hof
        have HX2 := Lib.hid x2
        clear hw2 hof hg2 HOF hg6 hgx hN6 hb6 x6 x2 k0 k1 k2 k3 k4 k5 k6 k7 c5 c6 c7 f5 f6 f7
        go_wp2_with fail
        refine HK2.out.mono ?_
        rintro e w3 ⟨mm, nx', gr', bd2, nb', rfl, hw3, hg4, hres⟩
        have hres2 : KidsRes L nx (gr + 1) bd1 (true || !decide (gp = (gr : Int) + 1)) fs mm nx' gr' bd2 nb' := by rw [HD.out]; exact hres
        have hfin := Lib.hid (par_res (n := ⟨4, tm, ⟨sa, sb, sc, sd⟩, gp, fs, nxt⟩) rfl HOF2.out hres2 HP4.out)
        have hg5 := Lib.hid (jgtrans hg3.out hg4)
        have x3 := HX2.out.kept hg4 hXB
        have f6 := CBlk.free hw3 6
        have c6 := CBlk.cell hw3 6 (by simp)
        have hw4 := Lib.hid hw3
        have hl3 := CBlk.lt hw3
        obtain ⟨k0, k1, k2, k3, k4, k5⟩ : w3.cell? ⟨X, 0, none⟩ = _ ∧ w3.cell? ⟨X, 1, none⟩ = _ ∧ w3.cell? ⟨X, 2, none⟩ = _ ∧ w3.cell? ⟨X, 3, none⟩ = _ ∧ w3.cell? ⟨X, 4, none⟩ = _ ∧ w3.cell? ⟨X, 5, none⟩ = _ := ⟨x3.cell 0 (by simp), x3.cell 1 (by simp), x3.cell 2 (by simp), x3.cell 3 (by simp), x3.cell 4 (by simp), x3.cell 5 (by simp)⟩
        clear hg4 hres hres2 hw3 k7' HK2 x3
        by_cases hm1 : mm = 1
        case neg =>
          have q0 : ((mm : Int) != 1) = true := by simp; omega
          have q0' : (mm != 1) = true := by simpa using hm1
          have hf2 := hfin.out
          rw [if_neg (fun h => hm1 h.1)] at hf2
          have hf3 := Lib.hid hf2
          clear hf2 hm1
          go_wp2_with fail
          exact bodyPost_end (v := .tuple #[]) (by simp [Go.results, Tryz.results62, go_sem]) rfl ⟨nx', gr', true, nb', rfl, hw4.out.bad true, jgtrans hg5.out (jgset w3 B 6 _), hf3.out⟩
        have q0 : ((mm : Int) != 1) = false := by rw [hm1]; rfl
        have q0' : (mm != 1) = false := by rw [hm1]; rfl
        cases p4 with
        | true =>
          have hf2 := hfin.out
          rw [if_pos ⟨hm1, rfl⟩] at hf2
          have hf3 := Lib.hid hf2
          obtain ⟨hz4, q5⟩ := HZ4.out.1 rfl
          clear HZ4
          subst hz4
          clear hf2 hm1
          rcases q5 with rfl | rfl
          · have r1 : ((0 : Int) != 0) = false := rfl
            go_wp2_with fail
            exact bodyPost_end (v := .tuple #[]) (by simp [Go.results, Tryz.results62, go_sem]) rfl ⟨nx', gr', bd2, nb', rfl, hw4.out, hg5.out, hf3.out⟩
          · have r1 : ((3 : Int) != 0) = true := rfl
            have r2 : ((3 : Int) != 3) = false := rfl
            go_wp2_with fail
            exact bodyPost_end (v := .tuple #[]) (by simp [Go.results, Tryz.results62, go_sem]) rfl ⟨nx', gr', bd2, nb', rfl, hw4.out, hg5.out, hf3.out⟩
        | false =>
          have hf2 := hfin.out
          rw [if_neg (fun h => by have := h.2; cases this)] at hf2
          have hf3 := Lib.hid hf2
          clear hf2 hm1
          cases z with
          | false =>
            go_wp2_with fail
            exact bodyPost_end (v := .tuple #[]) (by simp [Go.results, Tryz.results62, go_sem]) rfl ⟨nx', gr', true, nb', rfl, hw4.out.bad true, jgtrans hg5.out (jgset w3 B 6 _), hf3.out⟩
          | true =>
            have r1 : (tm != 0) = true := by simpa using fun h => HZ4.out.2 rfl rfl (.inl h)
            have r2 : (tm != 3) = true := by simpa using fun h => HZ4.out.2 rfl rfl (.inr h)
            go_wp2_with fail
            exact bodyPost_end (v := .tuple #[]) (by simp [Go.results, Tryz.results62, go_sem]) rfl ⟨nx', gr', true, nb', rfl, hw4.out.bad true, jgtrans hg5.out (jgset w3 B 6 _), hf3.out⟩
    | false =>
      cases d with
      | false =>
        go_region
        all_goals
          go_wp2_with fail
          have hw5 := (HW1.out.grp (gr + 1)).num true
          rw [show ((gr + 1 : Nat) : Int) = (gr : Int) + 1 by omega] at hw5
          have hg5 := jgtrans (jgtrans HG1.out (jgset wc B 5 (.int .i64 ((gr : Int) + 1)))) (jgset _ B 7 (.bool true))
          have hw6 : WKB ((wc.setCell ⟨B, 5, none⟩ (.int .i64 ((gr : Int) + 1))).setCell ⟨B, 7, none⟩ (.bool true)).drew B (.slice (some ⟨b, off, none⟩) L.length cap) bb en g nx (gr + 1) false true := CBlk.drew hw5
          have hg6 := jgdrew hg5
          have hgx := jgdrew (jgtrans (jgset wc B 5 (.int .i64 ((gr : Int) + 1))) (jgset _ B 7 (.bool true)))
          have hN6 := nds_grown HN1.out hgx hbB hb1
          have hb6 : b < ((wc.setCell ⟨B, 5, none⟩ (.int .i64 ((gr : Int) + 1))).setCell ⟨B, 7, none⟩ (.bool true)).drew.heap.size := Nat.lt_of_lt_of_le hb1 hgx.size
          have x6 := HX0.out.kept hgx hXB
          have HOF := Lib.hid (wof_any L hL b off cap B hbB bb en g fs 3 3 nx (gr + 1) true _ hN6 hb6 hw6)
          clear hw5 hg5 hw6
          refine HOF.out.mono ?_
          rintro e w2 ⟨bd1, rfl, hw2, hof, hg2⟩
          have hg3 := Lib.hid (jgtrans hg6 hg2)
          have x2 := x6.kept hg2 hXB
          have k7' := x2.cell 7 (by simp)
          have HK2 := Lib.hid (HK.out nx (gr + 1) bd1 true fs w2 (by omega) hnx (by omega) (nds_grown hN6 hg2 hbB hb6) (Nat.lt_of_lt_of_le hb6 hg2.size) hw2)
          have HOF2 := Lib.hid hof
          have HX2 := Lib.hid x2
          clear hw2 hof hg2 HOF hg6 hgx hN6 hb6 x6 x2 k0 k1 k2 k3 k4 k5 k6 k7 c5 c6 c7 f5 f6 f7
          go_wp2_with fail
          refine HK2.out.mono ?_
          rintro e w3 ⟨mm, nx', gr', bd2, nb', rfl, hw3, hg4, hres⟩
          have hres2 : KidsRes L nx (gr + 1) bd1 (false || !decide (gp = (gr : Int) + 1)) fs mm nx' gr' bd2 nb' := by rw [HD.out]; exact hres
          have hfin := Lib.hid (par_res (n := ⟨4, tm, ⟨sa, sb, sc, sd⟩, gp, fs, nxt⟩) rfl HOF2.out hres2 HP4.out)
          have hg5 := Lib.hid (jgtrans hg3.out hg4)
          have x3 := HX2.out.kept hg4 hXB
          have f6 := CBlk.free hw3 6
          have c6 := CBlk.cell hw3 6 (by simp)
          have hw4 := Lib.hid hw3
          have hl3 := CBlk.lt hw3
          obtain ⟨k0, k1, k2, k3, k4, k5⟩ : w3.cell? ⟨X, 0, none⟩ = _ ∧ w3.cell? ⟨X, 1, none⟩ = _ ∧ w3.cell? ⟨X, 2, none⟩ = _ ∧ w3.cell? ⟨X, 3, none⟩ = _ ∧ w3.cell? ⟨X, 4, none⟩ = _ ∧ w3.cell? ⟨X, 5, none⟩ = _ := ⟨x3.cell 0 (by simp), x3.cell 1 (by simp), x3.cell 2 (by simp), x3.cell 3 (by simp), x3.cell 4 (by simp), x3.cell 5 (by simp)⟩
          clear hg4 hres hres2 hw3 k7' HK2 x3
          by_cases hm1 : mm = 1
          case neg =>
            have q0 : ((mm : Int) != 1) = true := by simp; omega
            have q0' : (mm != 1) = true := by simpa using hm1
            have hf2 := hfin.out
            rw [if_neg (fun h => hm1 h.1)] at hf2
            have hf3 := Lib.hid hf2
            clear hf2 hm1
            go_wp2_with fail
            exact bodyPost_end (v := .tuple #[]) (by simp [Go.results, Tryz.results62, go_sem]) rfl ⟨nx', gr', true, nb', rfl, hw4.out.bad true, jgtrans hg5.out (jgset w3 B 6 _), hf3.out⟩
          have q0 : ((mm : Int) != 1) = false := by rw [hm1]; rfl
          have q0' : (mm != 1) = false := by rw [hm1]; rfl
          cases p4 with
          | true =>
            have hf2 := hfin.out
            rw [if_pos ⟨hm1, rfl⟩] at hf2
            have hf3 := Lib.hid hf2
            obtain ⟨hz4, q5⟩ := HZ4.out.1 rfl
            clear HZ4
            subst hz4
            clear hf2 hm1
            rcases q5 with rfl | rfl
            · have r1 : ((0 : Int) != 0) = false := rfl
              go_wp2_with fail
              exact bodyPost_end (v := .tuple #[]) (by simp [Go.results, Tryz.results62, go_sem]) rfl ⟨nx', gr', bd2, nb', rfl, hw4.out, hg5.out, hf3.out⟩
            · have r1 : ((3 : Int) != 0) = true := rfl
              have r2 : ((3 : Int) != 3) = false := rfl
              go_wp2_with fail
              exact bodyPost_end (v := .tuple #[]) (by simp [Go.results, Tryz.results62, go_sem]) rfl ⟨nx', gr', bd2, nb', rfl, hw4.out, hg5.out, hf3.out⟩
          | false =>
            have hf2 := hfin.out
            rw [if_neg (fun h => by have := h.2; cases this)] at hf2
            have hf3 := Lib.hid hf2
            clear hf2 hm1
            cases z with
            | false =>
              go_wp2_with fail
              exact bodyPost_end (v := .tuple #[]) (by simp [Go.results, Tryz.results62, go_sem]) rfl ⟨nx', gr', true, nb', rfl, hw4.out.bad true, jgtrans hg5.out (jgset w3 B 6 _), hf3.out⟩
            | true =>
              have r1 : (tm != 0) = true := by simpa using fun h => HZ4.out.2 rfl rfl (.inl h)
              have r2 : (tm != 3) = true := by simpa using fun h => HZ4.out.2 rfl rfl (.inr h)
              go_wp2_with fail
              exact bodyPost_end (v := .tuple #[]) (by simp [Go.results, Tryz.results62, go_sem]) rfl ⟨nx', gr', true, nb', rfl, hw4.out.bad true, jgtrans hg5.out (jgset w3 B 6 _), hf3.out⟩
      | true =>
        go_region
        all_goals
          go_wp2_with fail
          have hw5 := (HW1.out.grp (gr + 1)).num false
          rw [show ((gr + 1 : Nat) : Int) = (gr : Int) + 1 by omega] at hw5
          have hg5 := jgtrans (jgtrans HG1.out (jgset wc B 5 (.int .i64 ((gr : Int) + 1)))) (jgset _ B 7 (.bool false))
          have hw6 : WKB ((wc.setCell ⟨B, 5, none⟩ (.int .i64 ((gr : Int) + 1))).setCell ⟨B, 7, none⟩ (.bool false)).drew B (.slice (some ⟨b, off, none⟩) L.length cap) bb en g nx (gr + 1) false false := CBlk.drew hw5
          have hg6 := jgdrew hg5
          have hgx := jgdrew (jgtrans (jgset wc B 5 (.int .i64 ((gr : Int) + 1))) (jgset _ B 7 (.bool false)))
          have hN6 := nds_grown HN1.out hgx hbB hb1
          have hb6 : b < ((wc.setCell ⟨B, 5, none⟩ (.int .i64 ((gr : Int) + 1))).setCell ⟨B, 7, none⟩ (.bool false)).drew.heap.size := Nat.lt_of_lt_of_le hb1 hgx.size
          have x6 := HX0.out.kept hgx hXB
          have HOF := Lib.hid (wof_any L hL b off cap B hbB bb en g fs 3 3 nx (gr + 1) false _ hN6 hb6 hw6)
          clear hw5 hg5 hw6
          refine HOF.out.mono ?_
          rintro e w2 ⟨bd1, rfl, hw2, hof, hg2⟩
          have hg3 := Lib.hid (jgtrans hg6 hg2)
          have x2 := x6.kept hg2 hXB
          have k7' := x2.cell 7 (by simp)
          have HK2 := Lib.hid (HK.out nx (gr + 1) bd1 false fs w2 (by omega) hnx (by omega) (nds_grown hN6 hg2 hbB hb6) (Nat.lt_of_lt_of_le hb6 hg2.size) hw2)
          have HOF2 := Lib.hid hof
          have HX2 := Lib.hid x2
          clear hw2 hof hg2 HOF hg6 hgx hN6 hb6 x6 x2 k0 k1 k2 k3 k4 k5 k6 k7 c5 c6 c7 f5 f6 f7
          go_wp2_with fail
          refine HK2.out.mono ?_
          rintro e w3 ⟨mm, nx', gr', bd2, nb', rfl, hw3, hg4, hres⟩
          have hres2 : KidsRes L nx (gr + 1) bd1 (false || !decide (gp = (gr : Int) + 1)) fs mm nx' gr' bd2 nb' := by rw [HD.out]; exact hres
          have hfin := Lib.hid (par_res (n := ⟨4, tm, ⟨sa, sb, sc, sd⟩, gp, fs, nxt⟩) rfl HOF2.out hres2 HP4.out)
          have hg5 := Lib.hid (jgtrans hg3.out hg4)
          have x3 := HX2.out.kept hg4 hXB
          have f6 := CBlk.free hw3 6
          have c6 := CBlk.cell hw3 6 (by simp)
          have hw4 := Lib.hid hw3
          have hl3 := CBlk.lt hw3
          obtain ⟨k0, k1, k2, k3, k4, k5⟩ : w3.cell? ⟨X, 0, none⟩ = _ ∧ w3.cell? ⟨X, 1, none⟩ = _ ∧ w3.cell? ⟨X, 2, none⟩ = _ ∧ w3.cell? ⟨X, 3, none⟩ = _ ∧ w3.cell? ⟨X, 4, none⟩ = _ ∧ w3.cell? ⟨X, 5, none⟩ = _ := ⟨x3.cell 0 (by simp), x3.cell 1 (by simp), x3.cell 2 (by simp), x3.cell 3 (by simp), x3.cell 4 (by simp), x3.cell 5 (by simp)⟩
          clear hg4 hres hres2 hw3 k7' HK2 x3
          by_cases hm1 : mm = 1
          case neg =>
            have q0 : ((mm : Int) != 1) = true := by simp; omega
            have q0' : (mm != 1) = true := by simpa using hm1
            have hf2 := hfin.out
            rw [if_neg (fun h => hm1 h.1)] at hf2
            have hf3 := Lib.hid hf2
            clear hf2 hm1
            go_wp2_with fail
            exact bodyPost_end (v := .tuple #[]) (by simp [Go.results, Tryz.results62, go_sem]) rfl ⟨nx', gr', true, nb', rfl, hw4.out.bad true, jgtrans hg5.out (jgset w3 B 6 _), hf3.out⟩
          have q0 : ((mm : Int) != 1) = false := by rw [hm1]; rfl
          have q0' : (mm != 1) = false := by rw [hm1]; rfl
          cases p4 with
          | true =>
            have hf2 := hfin.out
            rw [if_pos ⟨hm1, rfl⟩] at hf2
            have hf3 := Lib.hid hf2
            obtain ⟨hz4, q5⟩ := HZ4.out.1 rfl
            clear HZ4
            subst hz4
            clear hf2 hm1
            rcases q5 with rfl | rfl
            · have r1 : ((0 : Int) != 0) = false := rfl
              go_wp2_with fail
              exact bodyPost_end (v := .tuple #[]) (by simp [Go.results, Tryz.results62, go_sem]) rfl ⟨nx', gr', bd2, nb', rfl, hw4.out, hg5.out, hf3.out⟩
            · have r1 : ((3 : Int) != 0) = true := rfl
              have r2 : ((3 : Int) != 3) = false := rfl
              go_wp2_with fail
              exact bodyPost_end (v := .tuple #[]) (by simp [Go.results, Tryz.results62, go_sem]) rfl ⟨nx', gr', bd2, nb', rfl, hw4.out, hg5.out, hf3.out⟩
          | false =>
            have hf2 := hfin.out
            rw [if_neg (fun h => by have := h.2; cases this)] at hf2
            have hf3 := Lib.hid hf2
            clear hf2 hm1
            cases z with
            | false =>
              go_wp2_with fail
              exact bodyPost_end (v := .tuple #[]) (by simp [Go.results, Tryz.results62, go_sem]) rfl ⟨nx', gr', true, nb', rfl, hw4.out.bad true, jgtrans hg5.out (jgset w3 B 6 _), hf3.out⟩
            | true =>
              have r1 : (tm != 0) = true := by simpa using fun h => HZ4.out.2 rfl rfl (.inl h)
              have r2 : (tm != 3) = true := by simpa using fun h => HZ4.out.2 rfl rfl (.inr h)
              go_wp2_with fail
              exact bodyPost_end (v := .tuple #[]) (by simp [Go.results, Tryz.results62, go_sem]) rfl ⟨nx', gr', true, nb', rfl, hw4.out.bad true, jgtrans hg5.out (jgset w3 B 6 _), hf3.out⟩
  · have n4 : (kd == 4) = false := by simpa using h4
    have hd : NodePost L (.slice (some ⟨b, off, none⟩) L.length cap) bb en g B nx gr nb ⟨kd, tm, ⟨sa, sb, sc, sd⟩, gp, fs, nxt⟩ W (.returned (.tuple #[])) (wc.setCell ⟨B, 6, none⟩ (.bool true)) :=
      ⟨nx, gr, true, nb, rfl, HW1.out.bad true, jgtrans HG1.out (jgset wc B 6 (.bool true)), other_res h1 h2 h3 h4 hnx hgr⟩
    have HD := Lib.hid hd
    clear hd
    go_wp2_with fail
    exact bodyPost_end (v := .tuple #[]) (by simp [Go.results, Tryz.results62, go_sem]) rfl HD.out
theorem kids_all (L : List ND) (hL : L.length < 1000000) (b off cap B : Nat) (hbB : b ≠ B) (bb en : Bool) (g : Int) : ∀ m, KidsS L b off cap B bb en g m
  | 0 => kids_step L hL b off cap B hbB bb en g 0 (fun _ _ _ _ _ h => absurd h (by omega))
  | m + 1 => kids_step L hL b off cap B hbB bb en g (m + 1) (node_step L hL b off cap B hbB bb en g m (kids_all L hL b off cap B hbB bb en g m))
end Go.Proofs.YtdnbnigebejgjaaGreatDoor
