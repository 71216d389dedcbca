/-
  The reference's reader of patterns: a sequence, given what a piece does.
  The reference's reader of patterns: a choice, given what a piece does.
-/
import Derived.Test.YtdnbnigebejgjaaGreatDoorHV12
namespace Go.Proofs.YtdnbnigebejgjaaGreatDoor
open Go.RowKit
set_option maxHeartbeats 16000000 in
set_option maxRecDepth 100000 in
theorem rSeq_any (t : List UInt8) (f : Nat) (pc : PS → Nat × PS) (B N : Nat) (x3 x4 : Value) (hG : PG t f pc) (hF : Frm t f pc) (hP : PieceR t f pc B N x3 x4) (n0 : Nat) (S : PS) (v : Value) (W : World) (h : PR W B N t S v x3 x4) (h0 : S.r.e = 0) (hf : vl t S.r ≤ f) (hn0 : n0 < S.L.length) (hpot : pot t S ≤ 100000) (hgp : gp t S ≤ 100000) :
    Calls Tryz.prog 57 #[.pointer (some ⟨B, 0, none⟩), .int .i64 (n0 : Int)] W fun e w' => e = .returned (.tuple #[]) ∧ ∃ (M : PS) (v' : Value), PR w' B N t M v' x3 x4 ∧ PF B v v' W w' ∧ SimP t M (adoptP (seqLoop t pc t.length S []).2 n0 (seqLoop t pc t.length S []).1) ∧ JLE t 0 S M := by
  have hlen := h.rd.len
  obtain ⟨R, hR⟩ : ∃ R, seqLoop t pc t.length S [] = R := ⟨_, rfl⟩
  have HST := Lib.hid (SqI.start t pc h0 hf hn0)
  rw [hR] at HST
  rw [hR]
  clear hR
  have HPO := Lib.hid hpot
  have HGP := Lib.hid hgp
  clear hpot hgp
  go_enter Tryz.func57, Tryz.ntmps57
  go_wp2_with fail
  go_loopw [4] (fun lv wr => ∃ (lst : Int) (M : PS) (v' : Value), lv = .int .i64 lst ∧ Hid (SqI t f pc n0 R S lst M) ∧ Hid (PR wr B N t M v' x3 x4) ∧ Hid (PF B v v' W wr)) (fun _ wr => visR t wr B)
  case atStart => exact ⟨-1, S, v, rfl, HST, Lib.hid h, Lib.hid (PF.refl B v W)⟩
  case round =>
    obtain ⟨lst, M, v', rfl, HI, HM, HF⟩ := hrel
    rename World => wr
    clear h HST h0 hf hn0
    have hvis := visR_of HM.out.rd
    have HVIS := Lib.hid hvis
    clear hvis
    obtain ⟨q, hq⟩ : ∃ q, (decide (M.r.e = 0) && (seesB t M.r behindL || doomB t M.r)) = q := ⟨_, rfl⟩
    have HQ := Lib.hid hq
    clear hq
    have HD := Lib.hid fun n => HM.out.rd.drewN n
    obtain ⟨d0, d1, d6, d7⟩ := HM.out.rd.cells
    go_upto_region 1 with fail
    go_cut [47] (fun b wx => b = .bool q ∧ ∃ n, wx = wr.drewN n)
    case first =>
      by_cases he : M.r.e = 0
      · have HK := Lib.hid fun W h => rok_q t M.r v' x3 x4 (.int .i64 (M.g : Int)) true (decide_eq_true he) W B h
        have hqv := HQ.out
        obtain ⟨⟨k, e0, a0⟩, L, g⟩ := M
        dsimp only at he d1 hqv
        subst he
        rw [cond_val, show decide ((0 : Nat) = 0) = true from rfl, Bool.true_and] at hqv
        obtain ⟨q1, hq1⟩ : ∃ q, isB t k 124 = q := ⟨_, rfl⟩
        obtain ⟨q2, hq2⟩ : ∃ q, isB t k 41 = q := ⟨_, rfl⟩
        obtain ⟨q3, hq3⟩ : ∃ q, isB t k 36 = q := ⟨_, rfl⟩
        have H1 := Lib.hid fun W h => rIs_at t k 124 124 rfl q1 hq1 W B 0 a0 v' x3 x4 (.int .i64 (g : Int)) h
        have H2 := Lib.hid fun W h => rIs_at t k 41 41 rfl q2 hq2 W B 0 a0 v' x3 x4 (.int .i64 (g : Int)) h
        have H3 := Lib.hid fun W h => rIs_at t k 36 36 rfl q3 hq3 W B 0 a0 v' x3 x4 (.int .i64 (g : Int)) h
        rw [hq1, hq2, hq3] at hqv
        clear hq1 hq2 hq3
        by_cases hk : k < t.length
        · have b1 : decide ((k : Int) < (t.length : Int)) = true := decide_eq_true (by omega)
          have b2 : decide (k < t.length) = true := decide_eq_true hk
          rw [b2, Bool.true_and] at hqv
          have ww : IntKind.i64.wrap ((t.length : Int) - 1) = (t.length : Int) - 1 := jwrap (by omega) (by omega)
          have b3 : ((k : Int) == (t.length : Int) - 1) = decide (k + 1 = t.length) := by
            rw [Bool.eq_iff_iff, beq_iff_eq, decide_eq_true_iff]
            omega
          obtain ⟨d, hd⟩ : ∃ d, decide (k + 1 = t.length) = d := ⟨_, rfl⟩
          rw [hd] at b3 hqv
          have HQV := Lib.hid hqv
          clear hd hqv
          cases q1 with
          | true =>
            obtain rfl : q = false := HQV.out.symm
            go_quiet (first | (go_at_call 35; with_reducible exact Calls.quiet_of_same (HK.out _ (HD.out _))) | (go_at_call 33; with_reducible exact Calls.quiet_of (H1.out _ (HD.out _))) | (go_at_call 33; with_reducible exact Calls.quiet_of (H2.out _ (HD.out _))) | (go_at_call 33; with_reducible exact Calls.quiet_of (H3.out _ (HD.out _))))
            go_wp2_with fail
            go_meet
            exact ⟨rfl, _, rfl⟩
          | false =>
            cases q2 with
            | true =>
              obtain rfl : q = false := HQV.out.symm
              go_quiet (first | (go_at_call 35; with_reducible exact Calls.quiet_of_same (HK.out _ (HD.out _))) | (go_at_call 33; with_reducible exact Calls.quiet_of (H1.out _ (HD.out _))) | (go_at_call 33; with_reducible exact Calls.quiet_of (H2.out _ (HD.out _))) | (go_at_call 33; with_reducible exact Calls.quiet_of (H3.out _ (HD.out _))))
              go_wp2_with fail
              go_meet
              exact ⟨rfl, _, rfl⟩
            | false =>
              cases q3 with
              | false =>
                obtain rfl : q = true := HQV.out.symm
                go_quiet (first | (go_at_call 35; with_reducible exact Calls.quiet_of_same (HK.out _ (HD.out _))) | (go_at_call 33; with_reducible exact Calls.quiet_of (H1.out _ (HD.out _))) | (go_at_call 33; with_reducible exact Calls.quiet_of (H2.out _ (HD.out _))) | (go_at_call 33; with_reducible exact Calls.quiet_of (H3.out _ (HD.out _))))
                go_wp2_with fail
                go_meet
                exact ⟨rfl, _, rfl⟩
              | true =>
                cases d with
                | true =>
                  obtain rfl : q = false := HQV.out.symm
                  go_quiet (first | (go_at_call 35; with_reducible exact Calls.quiet_of_same (HK.out _ (HD.out _))) | (go_at_call 33; with_reducible exact Calls.quiet_of (H1.out _ (HD.out _))) | (go_at_call 33; with_reducible exact Calls.quiet_of (H2.out _ (HD.out _))) | (go_at_call 33; with_reducible exact Calls.quiet_of (H3.out _ (HD.out _))))
                  go_wp2_with fail
                  go_meet
                  exact ⟨rfl, _, rfl⟩
                | false =>
                  obtain rfl : q = true := HQV.out.symm
                  go_quiet (first | (go_at_call 35; with_reducible exact Calls.quiet_of_same (HK.out _ (HD.out _))) | (go_at_call 33; with_reducible exact Calls.quiet_of (H1.out _ (HD.out _))) | (go_at_call 33; with_reducible exact Calls.quiet_of (H2.out _ (HD.out _))) | (go_at_call 33; with_reducible exact Calls.quiet_of (H3.out _ (HD.out _))))
                  go_wp2_with fail
                  go_meet
                  exact ⟨rfl, _, rfl⟩
        · have b1 : decide ((k : Int) < (t.length : Int)) = false := decide_eq_false (by omega)
          have b2 : decide (k < t.length) = false := decide_eq_false hk
          rw [b2, Bool.false_and] at hqv
          subst hqv
          go_quiet (first | (go_at_call 35; with_reducible exact Calls.quiet_of_same (HK.out _ (HD.out _))) | (go_at_call 33; with_reducible exact Calls.quiet_of (H1.out _ (HD.out _))) | (go_at_call 33; with_reducible exact Calls.quiet_of (H2.out _ (HD.out _))) | (go_at_call 33; with_reducible exact Calls.quiet_of (H3.out _ (HD.out _))))
          go_wp2_with fail
          go_meet
          exact ⟨rfl, _, rfl⟩
      · have HK := Lib.hid fun W h => rok_q t M.r v' x3 x4 (.int .i64 (M.g : Int)) false (decide_eq_false he) W B h
        have hqv := HQ.out
        rw [decide_eq_false he, Bool.false_and] at hqv
        subst hqv
        go_quiet ((go_at_call 35; with_reducible exact Calls.quiet_of_same (HK.out _ (HD.out _))))
        go_wp2_with fail
        go_meet
        exact ⟨rfl, _, rfl⟩
    case rest =>
    obtain ⟨rfl, n, rfl⟩ := hcut
    have m2 := HM.out.drewN n
    have f2 := HF.out.drewN n
    generalize wr.drewN n = w2 at m2 f2 ⊢
    clear d0 d1 d6 d7 HD
    cases q with
    | false =>
      have hd := HI.out.done (fun he => by
        have hq := HQ.out
        rw [decide_eq_true he, Bool.true_and, Bool.or_eq_false_iff] at hq
        exact hq)
      have HDN := Lib.hid hd
      clear hd
      go_wp2_with fail
      exact bodyPost_end (v := .tuple #[]) (by simp [Go.results, Tryz.results57, go_sem]) rfl ⟨rfl, M, v', m2, f2, HDN.out.1, HDN.out.2⟩
    | true =>
      have hq := HQ.out
      rw [Bool.and_eq_true, decide_eq_true_iff] at hq
      obtain ⟨he, hw⟩ := hq
      have hk : M.r.k < t.length := by
        obtain ⟨⟨k, e0, a0⟩, L, g⟩ := M
        dsimp only at he hw ⊢
        subst he
        rw [cond_val, Bool.and_eq_true, decide_eq_true_iff] at hw
        exact hw.1
      obtain ⟨hvf, hjm, hnm, hls⟩ := HI.out.open he
      have hpm : pot t M ≤ 100000 := by have := hjm.p0; have := HPO.out; omega
      have hgm : gp t M ≤ 100000 := by have := hjm.g0; have := HGP.out; omega
      have HPC := Lib.hid (hP M v' w2 m2 he hk hvf hw hpm hgm)
      have HV0 : Hid (visR t wr B = t.length + 1 - M.r.k) := Lib.hid (by rw [HVIS.out, if_pos he])
      have HE := Lib.hid he
      have HKL := Lib.hid hk
      have HNM := Lib.hid hnm
      have HLS := Lib.hid hls
      clear hpm hgm hvf hjm hnm hls hw he hk
      go_wp2_with fail
      refine HPC.out.mono ?_
      rintro e w4 ⟨z, M2, v2, rfl, m4, f4, j4, hs, hd⟩
      have f4 := f2.trans f4
      have HS := Lib.hid hs
      have HDM := Lib.hid hd
      have J4 := Lib.hid j4
      clear hs hd j4 m2 f2 HPC
      cases hse : seesB t M.r behindL with
      | true =>
        obtain ⟨h1, h2⟩ := HS.out hse
        by_cases hpe : (pc M).2.r.e = 0
        · obtain ⟨rfl, rfl⟩ := h1 hpe
          have HN := Lib.hid (HI.out.piece hG hF HE.out hse hpe)
          have hLp : M.L.length ≤ (pc M).2.L.length := J4.out.l0
          have hvl := hG.lt M (vl_sees hse) (HI.out.open HE.out).1
          rw [vl_at HE.out, vl_at hpe] at hvl
          obtain ⟨g, cap, rfl, hg1, hg2⟩ := m4.row.form (show 0 < (pc M).2.L.length by have := HNM.out; omega)
          have HLK := Lib.hid (rLink_any t (pc M).2.r g cap x3 x4 (.int .i64 ((pc M).2.g : Int)) (pc M).2.L N w4 B n0 lst (pc M).1 (by have := HNM.out; omega) (by
            rcases HLS.out with h | ⟨k, h, hk⟩
            · exact .inl h
            · exact .inr ⟨k, h, by omega⟩) m4.rd m4.row)
          have HOK := Lib.hid (rok_q t (pc M).2.r (.slice (some ⟨g, 0, none⟩) (pc M).2.L.length cap) x3 x4 (.int .i64 ((pc M).2.g : Int)) true (decide_eq_true hpe) w4 B m4.rd)
          have hhi := m4.hi
          have HMS : Hid ((pc M).2.r.e = 0 ∧ M.r.k < (pc M).2.r.k ∧ M.r.k < t.length) := Lib.hid ⟨hpe, by have := HKL.out; omega, HKL.out⟩
          clear h1 h2 hse hpe hLp hvl hg1 hg2 HS HDM J4 HI HVIS
          go_wp2_with fail
          refine HOK.out.mono ?_
          rintro e w5 ⟨rfl, hw5⟩
          rw [hw5]
          clear hw5
          go_wp2_with fail
          refine HLK.out.mono ?_
          rintro e w6 ⟨rfl, r6, o6, g6⟩
          go_wp2_with fail
          go_roundw
          case rel =>
            refine ⟨((pc M).1 : Int), _, .slice (some ⟨g, 0, none⟩) (pc M).2.L.length cap, rfl, HN, Lib.hid ⟨r6, ?_, hhi⟩, Lib.hid (f4.trans ⟨g6.os, g6.tape, g6.output, g6.size, fun k hk h1 h2 => g6.block k hk (fun e => h2 (by rw [e]; rfl)), .inl rfl⟩)⟩
            show w6.ownsRow N _ 9 _ (putL _ _ _).length _
            rw [putL_length]
            exact o6
          case measure =>
            obtain ⟨h1, h2, h3⟩ := HMS.out
            rw [visR_of r6, HV0.out, if_pos h1]
            omega
        · obtain ⟨e1, e2⟩ := h2 hpe
          have HN := Lib.hid (HI.out.fault hF HE.out hse hpe ⟨e1, e2⟩ J4.out)
          have hne : M2.r.e ≠ 0 := by rw [e1]; exact hpe
          have HNE := Lib.hid hne
          have HOK := Lib.hid (rok_q t M2.r v2 x3 x4 (.int .i64 (M2.g : Int)) false (decide_eq_false hne) w4 B m4.rd)
          clear h1 h2 hse hpe e1 e2 hne HS HDM J4 HI HVIS
          go_wp2_with fail
          refine HOK.out.mono ?_
          rintro e w5 ⟨rfl, hw5⟩
          rw [hw5]
          clear hw5
          go_wp2_with fail
          go_roundw
          case rel => exact ⟨lst, M2, v2, rfl, HN, Lib.hid m4, Lib.hid f4⟩
          case measure =>
            rw [visR_of m4.rd, HV0.out, if_neg HNE.out]
            have := HKL.out
            omega
      | false =>
        have hdm : doomB t M.r = true := by
          have := HQ.out
          rw [hse, Bool.false_or, Bool.and_eq_true] at this
          exact this.2
        obtain ⟨e1, e2⟩ := HDM.out hdm
        have HN := Lib.hid (HI.out.doom HE.out hdm ⟨e1, e2⟩ J4.out)
        have hne : M2.r.e ≠ 0 := by rw [e1]; simp
        have HNE := Lib.hid hne
        have HOK := Lib.hid (rok_q t M2.r v2 x3 x4 (.int .i64 (M2.g : Int)) false (decide_eq_false hne) w4 B m4.rd)
        clear hse hdm e1 e2 hne HS HDM J4 HI HVIS
        go_wp2_with fail
        refine HOK.out.mono ?_
        rintro e w5 ⟨rfl, hw5⟩
        rw [hw5]
        clear hw5
        go_wp2_with fail
        go_roundw
        case rel => exact ⟨lst, M2, v2, rfl, HN, Lib.hid m4, Lib.hid f4⟩
        case measure =>
          rw [visR_of m4.rd, HV0.out, if_neg HNE.out]
          have := HKL.out
          omega
end Go.Proofs.YtdnbnigebejgjaaGreatDoor
namespace Go.Proofs.YtdnbnigebejgjaaGreatDoor
open Go.RowKit
theorem cho_is (t : List UInt8) (pc : PS → Nat × PS) (S : PS) : (choP t pc S).2 = adoptP (choLoop t pc t.length (seqP t pc (addP S (bare 3 .empty 0))).2 [(seqP t pc (addP S (bare 3 .empty 0))).1]).2 S.L.length (choLoop t pc t.length (seqP t pc (addP S (bare 3 .empty 0))).2 [(seqP t pc (addP S (bare 3 .empty 0))).1]).1 ∧ (choP t pc S).1 = S.L.length := ⟨rfl, rfl⟩
theorem PF.link {B g : Nat} {v v' : Value} {a b c : World} (h : PF B v v' a b) (g6 : b.grownBy c (some g)) (hv : v'.ownBlock = some g) : PF B v v' a c :=
  h.trans ⟨g6.os, g6.tape, g6.output, g6.size, fun k hk _ h2 => g6.block k hk (fun e => h2 (by rw [e]; exact hv)), .inl rfl⟩
set_option maxHeartbeats 16000000 in
set_option maxRecDepth 100000 in
theorem rCho_any (t : List UInt8) (f : Nat) (pc : PS → Nat × PS) (B N : Nat) (x3 x4 : Value) (hG : PG t f pc) (hF : Frm t f pc) (hP : PieceR t f pc B N x3 x4) (S : PS) (v : Value) (W : World) (h : PR W B N t S v x3 x4) (h0 : S.r.e = 0) (hf : vl t S.r ≤ f) (hpot : pot t S ≤ 99998) (hgp : gp t S ≤ 100000) :
    Calls Tryz.prog 34 #[.pointer (some ⟨B, 0, none⟩)] W fun e w' => e = .returned (.int .i64 (S.L.length : Int)) ∧ ∃ (M : PS) (v' : Value), PR w' B N t M v' x3 x4 ∧ PF B v v' W w' ∧ SimP t M (choP t pc S).2 ∧ JLE t 2 S M := by
  have hlen := h.rd.len
  have hlt := h.lt
  have hNB := h.hi
  have hL0 : S.L.length < 1000000 := by unfold pot at hpot; omega
  have HST := Lib.hid (ChI.start t pc h0 hf)
  rw [(cho_is t pc S).1]
  obtain ⟨R, hR⟩ : ∃ R, choLoop t pc t.length (seqP t pc (addP S (bare 3 .empty 0))).2 [(seqP t pc (addP S (bare 3 .empty 0))).1] = R := ⟨_, rfl⟩
  rw [hR] at HST ⊢
  have HPO := Lib.hid hpot
  have HGP := Lib.hid hgp
  clear hpot hgp hR
  go_enter Tryz.func34, Tryz.ntmps34
  go_wp2_with fail
  refine (rAdd_any t S.r v x3 x4 _ (⟨3, 0, .empty, 0, 0, 0⟩ : ND) S.L hL0 N W B (by omega) h.rd h.row).mono ?_
  rintro e w1 ⟨rfl, v1, hr1, hw1, hp1⟩
  have m1 : PR w1 B N t (addP S (bare 3 .empty 0)) v1 x3 x4 := h.add (n := bare 3 .empty 0) hr1 hw1
  clear hr1 hw1
  go_wp2_with fail
  go_loopw [4] (fun lv wr => ∃ (lst : Int) (M : PS) (v' : Value), lv = .int .i64 lst ∧ Hid (ChI t f pc S.L.length R S lst M) ∧ Hid (PR wr B N t M v' x3 x4) ∧ Hid (PF B v v' W wr)) (fun _ wr => visR t wr B)
  case atStart => exact ⟨-1, addP S (bare 3 .empty 0), v1, rfl, HST, Lib.hid m1, Lib.hid hp1⟩
  case round =>
    obtain ⟨lst, M, v', rfl, HI, HM, HF⟩ := hrel
    rename World => wr
    clear h HST h0 hf m1 hp1 hlt
    have hvis := visR_of HM.out.rd
    obtain ⟨he, hvf, hjm, hnm, hls⟩ := HI.out.open
    rw [if_pos he] at hvis
    have HVIS := Lib.hid hvis
    have hpm : pot t M ≤ 99999 := by have := hjm.p0; have := HPO.out; omega
    have hgm : gp t M ≤ 100000 := by have := hjm.g0; have := HGP.out; omega
    have hLm : M.L.length < 1000000 := by unfold pot at hpm; omega
    have hwB := HM.out.lt
    have HADD := Lib.hid (rAdd_any t M.r v' x3 x4 (.int .i64 (M.g : Int)) (⟨2, 0, .empty, 0, 0, 0⟩ : ND) M.L hLm N wr B (by omega) HM.out.rd HM.out.row)
    have HPM := Lib.hid hpm
    have HGM := Lib.hid hgm
    have HNM := Lib.hid hnm
    have HLS := Lib.hid hls
    have HE := Lib.hid he
    have HVF := Lib.hid hvf
    have HJM := Lib.hid hjm
    clear hvis he hvf hjm hnm hls hpm hgm hLm hwB
    go_wp2_with fail
    refine HADD.out.mono ?_
    rintro e w3 ⟨rfl, v3, hr3, hw3, hp3⟩
    have m3 : PR w3 B N t (addP M (bare 2 .empty 0)) v3 x3 x4 := HM.out.add (n := bare 2 .empty 0) hr3 hw3
    have f3 := HF.out.trans hp3
    clear hr3 hw3 hp3 HADD HM HF
    have hl3 : (addP M (bare 2 .empty 0)).L.length = M.L.length + 1 := by simp [addP]
    obtain ⟨g, cap, rfl, hg1, hg2⟩ := m3.row.form (by rw [hl3]; omega)
    have HLK := Lib.hid (rLink_any t M.r g cap x3 x4 (.int .i64 (M.g : Int)) (addP M (bare 2 .empty 0)).L N w3 B S.L.length lst M.L.length (by rw [hl3]; have := HNM.out; omega) (by
      rcases HLS.out with h | ⟨k, h, hk⟩
      · exact .inl h
      · exact .inr ⟨k, h, by rw [hl3]; omega⟩) m3.rd m3.row)
    have hhi := m3.hi
    clear hg1 hg2 m3
    go_wp2_with fail
    refine HLK.out.mono ?_
    rintro e w4 ⟨rfl, r4, o4, g4⟩
    have f4 := f3.link g4 rfl
    obtain ⟨M2, hM2⟩ : ∃ M2 : PS, { M with L := putL (M.L ++ [bare 2 .empty 0]) (lnk S.L.length lst) M.L.length } = M2 := ⟨_, rfl⟩
    have hl2 : M2.L.length = M.L.length + 1 := by rw [← hM2]; show (putL _ _ _).length = _; rw [putL_length, List.length_append]; rfl
    have m4 : PR w4 B N t M2 (.slice (some ⟨g, 0, none⟩) (addP M (bare 2 .empty 0)).L.length cap) x3 x4 := by
      refine ⟨by rw [← hM2]; exact r4, ?_, hhi⟩
      rw [hl2, ← hM2]
      rw [hl3] at o4 ⊢
      exact o4
    have hr2 : M2.r = M.r := by rw [← hM2]
    have hg2 : M2.g = M.g := by rw [← hM2]
    have HSQ := Lib.hid (rSeq_any t f pc B N x3 x4 hG hF hP M.L.length M2 _ w4 m4 (by rw [hr2]; exact HE.out) (by rw [hr2]; exact HVF.out) (by omega) (by unfold pot; rw [hr2, hl2]; have := HPM.out; unfold pot at this; omega) (by unfold gp; rw [hr2, hg2]; exact HGM.out))
    have HM2 := Lib.hid hM2
    have HR2 := Lib.hid hr2
    clear HLK f3 r4 o4 g4 hl2 hM2 hr2 hg2 hl3 m4
    go_wp2_with fail
    refine HSQ.out.mono ?_
    rintro e w5 ⟨rfl, M3, v5, m5, f5, hsim, hj5⟩
    have f5 := f4.trans f5
    obtain ⟨hJ, hstop, hgo⟩ := HI.out.step hG hF rfl HM2.out.symm hsim hj5
    have HJ := Lib.hid hJ
    have HSTOP := Lib.hid hstop
    have HGO := Lib.hid hgo
    have HJ5 := Lib.hid hj5
    clear hsim hJ hstop hgo hj5 f4 HSQ HM2 HI
    by_cases he3 : M3.r.e = 0
    · have HOK := Lib.hid (rok_q t M3.r v5 x3 x4 (.int .i64 (M3.g : Int)) true (decide_eq_true he3) w5 B m5.rd)
      have hi124 := isB_take he3 124 (t := t)
      obtain ⟨q, hq⟩ : ∃ q, isB t M3.r.k 124 = q := ⟨_, rfl⟩
      have HIS := Lib.hid (rIs_at t M3.r.k 124 124 rfl q hq w5 B M3.r.e M3.r.a v5 x3 x4 (.int .i64 (M3.g : Int)) m5.rd)
      rw [hq] at hi124
      cases q with
      | true =>
        have hk3 : M3.r.k < t.length := by
          by_cases hk : M3.r.k < t.length
          · exact hk
          · rw [isB_out _ (by omega)] at hq; cases hq
        have HN := Lib.hid (HGO.out he3 hi124.symm)
        have htr : takeR t M3.r [124] = ⟨M3.r.k + 1, M3.r.e, M3.r.a⟩ := by unfold takeR; rw [if_pos hi124.symm]; rfl
        rw [htr] at HN
        have ww : IntKind.i64.wrap ((M3.r.k : Int) + 1) = (M3.r.k : Int) + 1 := jwrap (by omega) (by omega)
        have HMS : Hid (M3.r.e = 0 ∧ M.r.k ≤ M3.r.k ∧ M3.r.k < t.length) := Lib.hid (by
          have h1 := HJ5.out.v0
          rw [HR2.out, vl_at HE.out, vl_at he3] at h1
          exact ⟨he3, by omega, hk3⟩)
        clear hq hi124 htr hk3 he3 HGO HSTOP HJ5
        go_wp2_with fail
        refine HOK.out.mono ?_
        rintro e w6 ⟨rfl, hw6⟩
        rw [hw6]
        clear hw6
        go_wp2_with fail
        refine HIS.out.mono ?_
        rintro e w7 ⟨rfl, m7, hw7⟩
        have m8 : PR w7 B N t M3 v5 x3 x4 := by rw [hw7]; exact m5.drewN m7
        have f8 : PF B v v5 W w7 := by rw [hw7]; exact f5.drewN m7
        clear hw7 m5 f5
        obtain ⟨c0, c1, c6, c7⟩ := m8.rd.cells
        have f1 := m8.rd.free 1
        have HSP := Lib.hid (m8.rd.step (by have := HMS.out; omega))
        go_wp2_with fail
        go_roundw
        case rel => exact ⟨(M.L.length : Int), _, v5, rfl, HN, Lib.hid (m8.step HSP.out (jgset w7 B 1 _)), Lib.hid (f8.trans (PF.of v5 (jgset w7 B 1 _)))⟩
        case measure =>
          obtain ⟨h1, h2, h3⟩ := HMS.out
          rw [visR_of HSP.out, HVIS.out, if_pos h1]
          dsimp only
          omega
      | false =>
        have HSM := Lib.hid (HSTOP.out (.inr hi124.symm))
        clear hq hi124 he3 HGO HSTOP
        go_wp2_with fail
        refine HOK.out.mono ?_
        rintro e w6 ⟨rfl, hw6⟩
        rw [hw6]
        clear hw6
        go_wp2_with fail
        refine HIS.out.mono ?_
        rintro e w7 ⟨rfl, m7, hw7⟩
        have m8 : PR w7 B N t M3 v5 x3 x4 := by rw [hw7]; exact m5.drewN m7
        have f8 : PF B v v5 W w7 := by rw [hw7]; exact f5.drewN m7
        clear hw7 m5 f5
        go_wp2_with fail
        go_ret
        exact ⟨rfl, M3, v5, m8, f8, HSM.out, HJ.out⟩
    · have HOK := Lib.hid (rok_q t M3.r v5 x3 x4 (.int .i64 (M3.g : Int)) false (decide_eq_false he3) w5 B m5.rd)
      have HSM := Lib.hid (HSTOP.out (.inl he3))
      clear he3 HGO HSTOP
      go_wp2_with fail
      refine HOK.out.mono ?_
      rintro e w6 ⟨rfl, hw6⟩
      rw [hw6]
      clear hw6
      go_wp2_with fail
      go_ret
      exact ⟨rfl, M3, v5, m5, f5, HSM.out, HJ.out⟩
end Go.Proofs.YtdnbnigebejgjaaGreatDoor
