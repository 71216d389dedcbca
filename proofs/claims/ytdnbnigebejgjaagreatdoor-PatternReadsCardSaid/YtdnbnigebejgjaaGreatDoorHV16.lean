/-
  The reference's reader of patterns: a group, given what a piece does.
  The reference's reader of patterns: a piece.
-/
import Derived.Test.YtdnbnigebejgjaaGreatDoorHV14
namespace Go.Proofs.YtdnbnigebejgjaaGreatDoor
open Go.RowKit
theorem RF.groups {w : World} {B : Nat} {t : List UInt8} {s : RS} {x2 x3 x4 x5 : Value} (h : RF w B t s x2 x3 x4 x5) (v : Value) : RF (w.setCell ⟨B, 5, none⟩ v) B t s x2 x3 x4 v := ⟨h.1, h.2.1, CBlk.set h.2.2 5 v⟩
theorem PR.fault {w w' : World} {B N : Nat} {t : List UInt8} {S : PS} {v x3 x4 : Value} {e a : Nat} (h : PR w B N t S v x3 x4) (hr : RF w' B t (failR S.r e a) v x3 x4 (.int .i64 (S.g : Int))) (hg : w.grownBy w' (some B)) : PR w' B N t { S with r := failR S.r e a } v x3 x4 := h.step hr hg
theorem timesR_e {t : List UInt8} {s : RS} : ∀ l : List Nat, (timesR t s l).e = s.e
  | [] => rfl
  | x :: l => by
    unfold timesR
    split
    · unfold takeR
      split <;> rfl
    · exact timesR_e l
theorem lnk_first (n : Nat) : lnk n (-1) = (n, false) := rfl
/-- What a group comes to: R is what the parser comes to. -/
def GPost (t : List UInt8) (B N : Nat) (S : PS) (v : Value) (W : World) (x3 x4 : Value) (R : Nat × PS) (e : Ending) (w' : World) : Prop :=
  ∃ (z : Int) (M : PS) (v' : Value), e = .returned (.int .i64 z) ∧ PR w' B N t M v' x3 x4 ∧ PF B v v' W w' ∧ JLE t 0 S M ∧ (R.2.r.e = 0 → z = (R.1 : Int) ∧ M = R.2) ∧ (R.2.r.e ≠ 0 → M.r.e = R.2.r.e ∧ M.r.a = R.2.r.a)
theorem GPost.of {t : List UInt8} {B N : Nat} {S : PS} {v : Value} {W : World} {x3 x4 : Value} {R : Nat × PS} {e : Ending} {w' : World} (h : ∃ (z : Int) (M : PS) (v' : Value), e = .returned (.int .i64 z) ∧ PR w' B N t M v' x3 x4 ∧ PF B v v' W w' ∧ JLE t 0 S M ∧ (R.2.r.e = 0 → z = (R.1 : Int) ∧ M = R.2) ∧ (R.2.r.e ≠ 0 → M.r.e = R.2.r.e ∧ M.r.a = R.2.r.a)) : GPost t B N S v W x3 x4 R e w' := h
set_option maxHeartbeats 16000000 in
set_option maxRecDepth 100000 in
theorem rGrp_any (t : List UInt8) (f : Nat) (pc : PS → Nat × PS) (B N : Nat) (x3 x4 : Value) (hG : PG t f pc) (hF : Frm t f pc) (hP : PieceR t f pc B N x3 x4) (S : PS) (v : Value) (W : World) (h : PR W B N t S v x3 x4) (h0 : S.r.e = 0) (h40 : takeB t S.r [40] = true) (hf : vl t S.r ≤ f + 1) (hpot : pot t S ≤ 100000) (hgp : gp t S ≤ 100000) :
    Calls Tryz.prog 93 #[.pointer (some ⟨B, 0, none⟩)] W fun e w' => GPost t B N S v W x3 x4 (grpP t pc S) e w' := by
  have hlen := h.rd.len
  have hlt := h.lt
  have hNB := h.hi
  have hvt := vl_take h40
  simp only [List.length_singleton] at hvt
  have hvk := vl_at (t := t) h0
  obtain ⟨d2, d3, d4, d5⟩ := h.rd.cells2
  obtain ⟨c0, c1, c6, c7⟩ := h.rd.cells
  by_cases h9 : S.g = 9
  · have a1 : ((S.g : Int) == 9) = true := by rw [h9]; rfl
    have HGN := Lib.hid (grp_nine (t := t) (pc := pc) h0 h9)
    have HW := Lib.hid (rWrong_any t S.r v x3 x4 (.int .i64 (S.g : Int)) 14 S.r.k W B h.rd)
    have HFR : Hid (failR S.r 14 S.r.k = ⟨S.r.k, 14, S.r.k⟩) := Lib.hid (by unfold failR; rw [if_pos h0])
    clear h9
    go_enter Tryz.func93, Tryz.ntmps93
    go_wp2_with fail
    refine HW.out.mono ?_
    rintro e w1 ⟨rfl, h1, g1⟩
    go_wp2_with fail
    go_ret
    refine GPost.of ⟨-1, { S with r := failR S.r 14 S.r.k }, v, rfl, h.step h1 g1, PF.of v g1, ?_, fun e => (by rw [HGN.out.1] at e; cases e), fun _ => ?_⟩
    · exact JLE.read (by rw [vl_fail _ _ _ _ (by omega)]; exact Nat.zero_le _)
    · show (failR S.r 14 S.r.k).e = _ ∧ (failR S.r 14 S.r.k).a = _
      rw [HFR.out]
      exact ⟨HGN.out.1.symm, HGN.out.2.symm⟩
  · have a1 : ((S.g : Int) == 9) = false := by
      rw [beq_eq_false_iff_ne]; omega
    have htr : takeR t S.r [40] = ⟨S.r.k + 1, S.r.e, S.r.a⟩ := by unfold takeR; rw [if_pos h40]; rfl
    have ww1 : IntKind.i64.wrap ((S.r.k : Int) + 1) = (S.r.k : Int) + 1 := jwrap (by omega) (by omega)
    have hgl : S.g ≤ 100000 := by unfold gp at hgp; omega
    have ww2 : IntKind.i64.wrap ((S.g : Int) + 1) = (S.g : Int) + 1 := jwrap (by omega) (by omega)
    have HCA : Hid ((S.g : Int) + 1 = ((S.g + 1 : Nat) : Int)) := Lib.hid (by omega)
    have f1 := h.rd.free 1
    have f5 := h.rd.free 5
    obtain ⟨S1, hS1⟩ : ∃ S1 : PS, (⟨takeR t S.r [40], S.L, S.g + 1⟩ : PS) = S1 := ⟨_, rfl⟩
    have hm1 : PR ((W.setCell ⟨B, 1, none⟩ (.int .i64 ((S.r.k : Int) + 1))).setCell ⟨B, 5, none⟩ (.int .i64 ((S.g + 1 : Nat) : Int))) B N t S1 v x3 x4 := by
      rw [← hS1, htr]
      have hr := (h.rd.step (by omega)).groups (.int .i64 ((S.g + 1 : Nat) : Int))
      exact ⟨hr, h.row.kept (jgtrans (jgset W B 1 _) (jgset _ B 5 _)) (.inr (fun e => h.ne e.symm)), h.hi⟩
    have HM1 := Lib.hid hm1
    have HF1 := Lib.hid (PF.of v (jgtrans (jgset W B 1 (.int .i64 ((S.r.k : Int) + 1))) (jgset _ B 5 (.int .i64 ((S.g + 1 : Nat) : Int)))))
    have hz1 : S1.L = S.L ∧ S1.g = S.g + 1 ∧ S1.r.e = 0 ∧ vl t S1.r + 1 = vl t S.r := by
      rw [← hS1]
      exact ⟨rfl, rfl, by show (takeR t S.r [40]).e = 0; rw [htr]; exact h0, hvt⟩
    have HZ1 := Lib.hid hz1
    have HSIM := Lib.hid fun M => grp_sim (t := t) (pc := pc) (S := S) (M := M) h0 h9 h40
    have HS1 := Lib.hid hS1
    have HB0 := Lib.hid (And.intro hf (And.intro hpot (And.intro hgp hvt)))
    clear hm1 hz1 hS1 hf hpot hgp hvt hvk htr h9 h40
    go_enter Tryz.func93, Tryz.ntmps93
    go_upto_region 6 with fail
    rw [HCA.out]
    have m1 := HM1.out
    have p1 := HF1.out
    generalize (W.setCell ⟨B, 1, none⟩ (.int .i64 ((S.r.k : Int) + 1))).setCell ⟨B, 5, none⟩ (.int .i64 ((S.g + 1 : Nat) : Int)) = w1 at m1 p1 ⊢
    clear HM1 HF1 c0 c1 c6 c7 d2 d3 d4 d5 f1 f5 ww1 ww2
    obtain ⟨d2, d3, d4, d5⟩ := m1.rd.cells2
    rw [HZ1.out.2.1] at d5
    have hL1 : S1.L.length < 1000000 := by have := HB0.out.2.1; rw [HZ1.out.1]; unfold pot at this; omega
    have HADD := Lib.hid (rAdd_any t S1.r v x3 x4 (.int .i64 (S1.g : Int)) (⟨4, 0, .empty, ((S.g + 1 : Nat) : Int), 0, 0⟩ : ND) S1.L hL1 N w1 B (by have := m1.lt; have := m1.hi; omega) m1.rd m1.row)
    clear hL1
    go_wp2_with fail
    refine HADD.out.mono ?_
    rintro e w2 ⟨rfl, v2, r2, o2, p2⟩
    have m2 : PR w2 B N t (addP S1 (bare 4 .empty ((S.g + 1 : Nat) : Int))) v2 x3 x4 := m1.add (n := bare 4 .empty ((S.g + 1 : Nat) : Int)) r2 o2
    have p2 := p1.trans p2
    have hS2 : addP S1 (bare 4 .empty ((S.g + 1 : Nat) : Int)) = ⟨takeR t S.r [40], S.L ++ [bare 4 .empty ((S.g + 1 : Nat) : Int)], S.g + 1⟩ := by rw [← HS1.out]; rfl
    rw [hS2] at m2
    have hvf : vl t (takeR t S.r [40]) ≤ f := by have := HB0.out; omega
    have hpc : pot t ⟨takeR t S.r [40], S.L ++ [bare 4 .empty ((S.g + 1 : Nat) : Int)], S.g + 1⟩ + 3 = pot t S := by
      have := HB0.out.2.2.2
      simp only [pot, List.length_append, List.length_singleton]
      omega
    have hgc : gp t ⟨takeR t S.r [40], S.L ++ [bare 4 .empty ((S.g + 1 : Nat) : Int)], S.g + 1⟩ = gp t S := by
      have := HB0.out.2.2.2
      simp only [gp]
      omega
    obtain ⟨S2, hS2e⟩ : ∃ S2 : PS, (⟨takeR t S.r [40], S.L ++ [bare 4 .empty ((S.g + 1 : Nat) : Int)], S.g + 1⟩ : PS) = S2 := ⟨_, rfl⟩
    have hz2 : S2.L.length = S.L.length + 1 ∧ S2.r = takeR t S.r [40] := by rw [← hS2e]; exact ⟨by simp, rfl⟩
    rw [hS2e] at m2 hpc hgc HSIM
    have HCH := Lib.hid (rCho_any t f pc B N x3 x4 hG hF hP S2 v2 w2 m2 (by rw [hz2.2, ← (show S1.r = takeR t S.r [40] by rw [← HS1.out])]; exact HZ1.out.2.2.1) (by rw [hz2.2]; exact hvf) (by have := HB0.out; omega) (by have := HB0.out; omega))
    have HZ2 := Lib.hid (And.intro hz2.1 (And.intro hpc hgc))
    have hvl2 : vl t S2.r ≤ vl t S.r := by rw [hz2.2]; exact vl_take_le _ _ _
    have HVL2 := Lib.hid hvl2
    rw [HZ1.out.1]
    clear HADD m1 p1 r2 o2 m2 hS2 hvf hpc hgc hS2e hz2 hvl2 d2 d3 d4 d5
    go_wp2_with fail
    refine HCH.out.mono ?_
    rintro e w3 ⟨rfl, M, v3, m3, p3, hsim, hj⟩
    have p3 := p2.trans p3
    obtain ⟨hs1, hs2, hs3⟩ := HSIM.out M hsim S2.L.length rfl
    have HS1' := Lib.hid hs1
    have HS2' := Lib.hid hs2
    have HS3' := Lib.hid hs3
    have hnM : S.L.length < M.L.length := by have := hj.l0; have := HZ2.out.1; omega
    have HJ : Hid (∀ M' : PS, M'.L.length = M.L.length → M'.g = M.g → vl t M'.r ≤ vl t M.r → JLE t 0 S M') := Lib.hid fun M' h1 h2 h3 => by
      have a0 := hj.v0
      have a1 := hj.p0
      have a2 := hj.g0
      obtain ⟨b0, b1, b2⟩ := HZ2.out
      have b3 := HVL2.out
      simp only [pot, gp] at a1 a2 b1 b2
      refine ⟨by omega, ?_, ?_, by omega⟩
      · simp only [pot]; omega
      · simp only [gp]; omega
    obtain ⟨g, cap, rfl, hg1, hg2⟩ := m3.row.form (by omega)
    have HLK := Lib.hid (rLink_any t M.r g cap x3 x4 (.int .i64 (M.g : Int)) M.L N w3 B S.L.length (-1) S2.L.length hnM (.inl (by decide)) m3.rd m3.row)
    have HNM := Lib.hid hnM
    clear hs1 hs2 hs3 hsim hj hg1 hg2 HCH p2 hnM
    go_wp2_with fail
    refine HLK.out.mono ?_
    rintro e w4 ⟨rfl, r4, o4, g4⟩
    rw [lnk_first] at o4
    have p4 := p3.link g4 rfl
    obtain ⟨P, hP1⟩ : ∃ P, putL M.L (S.L.length, false) S2.L.length = P := ⟨_, rfl⟩
    have hPl : P.length = M.L.length := by rw [← hP1, putL_length]
    rw [hP1] at o4 HS3'
    rw [← hPl] at r4 o4
    have m4 : PR w4 B N t ⟨M.r, P, M.g⟩ (.slice (some ⟨g, 0, none⟩) P.length cap) x3 x4 := ⟨r4, o4, m3.hi⟩
    rw [← hPl] at p4
    have HPL := Lib.hid hPl
    clear HLK m3 p3 r4 o4 g4 hP1 hPl
    by_cases he : M.r.e = 0
    · have HOK := Lib.hid (rok_q t M.r (.slice (some ⟨g, 0, none⟩) P.length cap) x3 x4 (.int .i64 (M.g : Int)) true (decide_eq_true he) w4 B m4.rd)
      have hi41 := isB_take he 41 (t := t)
      obtain ⟨q, hq⟩ : ∃ q, isB t M.r.k 41 = q := ⟨_, rfl⟩
      have HIS := Lib.hid (rIs_at t M.r.k 41 41 rfl q hq w4 B M.r.e M.r.a (.slice (some ⟨g, 0, none⟩) P.length cap) x3 x4 (.int .i64 (M.g : Int)) m4.rd)
      rw [hq] at hi41
      cases q with
      | false =>
        obtain ⟨e1, e2⟩ := HS2'.out he hi41.symm
        have HEE := Lib.hid (And.intro e1 e2)
        have HW := Lib.hid fun W h => rWrong_any t M.r (.slice (some ⟨g, 0, none⟩) P.length cap) x3 x4 (.int .i64 (M.g : Int)) 3 M.r.k W B h
        have HFR : Hid (failR M.r 3 M.r.k = ⟨M.r.k, 3, M.r.k⟩) := Lib.hid (by unfold failR; rw [if_pos he])
        clear hi41 hq he e1 e2 HS1' HS2' HS3'
        go_wp2_with fail
        refine HOK.out.mono ?_
        rintro e w6 ⟨rfl, hw6⟩
        rw [hw6]
        clear hw6
        go_wp2_with fail
        refine HIS.out.mono ?_
        rintro e w7 ⟨rfl, m7, hw7⟩
        have m8 : PR w7 B N t ⟨M.r, P, M.g⟩ (.slice (some ⟨g, 0, none⟩) P.length cap) x3 x4 := by rw [hw7]; exact m4.drewN m7
        have p8 := p4.drewN m7
        rw [← hw7] at p8
        clear hw7 m4 p4
        obtain ⟨c0, c1, c6, c7⟩ := m8.rd.cells
        dsimp only at c1
        go_wp2_with fail
        refine (HW.out _ m8.rd).mono ?_
        rintro e w9 ⟨rfl, r9, g9⟩
        go_wp2_with fail
        go_ret
        refine GPost.of ⟨-1, ⟨failR M.r 3 M.r.k, P, M.g⟩, _, rfl, m8.step r9 g9, p8.trans (PF.of _ g9), HJ.out _ HPL.out rfl ?_, fun e => (by rw [HEE.out.1] at e; cases e), fun _ => ?_⟩
        · rw [vl_fail _ _ _ _ (by omega)]; exact Nat.zero_le _
        · show (failR M.r 3 M.r.k).e = _ ∧ (failR M.r 3 M.r.k).a = _
          rw [HFR.out]
          exact ⟨HEE.out.1.symm, HEE.out.2.symm⟩
      | true =>
        have hk3 : M.r.k < t.length := by
          by_cases hk : M.r.k < t.length
          · exact hk
          · rw [isB_out _ (by omega)] at hq; cases hq
        have hres := HS3'.out he hi41.symm
        have htr : takeR t M.r [41] = ⟨M.r.k + 1, M.r.e, M.r.a⟩ := by unfold takeR; rw [if_pos hi41.symm]; rfl
        rw [htr] at hres
        have hvt : vl t ⟨M.r.k + 1, M.r.e, M.r.a⟩ ≤ vl t M.r := by rw [← htr]; exact vl_take_le _ _ _
        have HT := Lib.hid fun W h => rTimes_any t ⟨M.r.k + 1, M.r.e, M.r.a⟩ (.slice (some ⟨g, 0, none⟩) P.length cap) x3 x4 (.int .i64 (M.g : Int)) true W B h he (by dsimp only; omega)
        rw [show timL true = [3] from rfl] at HT
        obtain ⟨tv, htv⟩ : ∃ x, timesV t ⟨M.r.k + 1, M.r.e, M.r.a⟩ [3] = x := ⟨_, rfl⟩
        have hvt2 := vl_times_le t ⟨M.r.k + 1, M.r.e, M.r.a⟩ [3]
        obtain ⟨tr, htr2⟩ : ∃ x, timesR t ⟨M.r.k + 1, M.r.e, M.r.a⟩ [3] = x := ⟨_, rfl⟩
        rw [htv, htr2] at HT hres
        rw [htr2] at hvt2
        have HRES := Lib.hid hres
        have HVT : Hid (vl t tr ≤ vl t M.r) := Lib.hid (by omega)
        have hte : tr.e = 0 := by
          have := timesR_e (t := t) (s := ⟨M.r.k + 1, M.r.e, M.r.a⟩) [3]
          rw [htr2] at this
          rw [this]; exact he
        have HTE := Lib.hid hte
        have ww1 : IntKind.i64.wrap ((M.r.k : Int) + 1) = (M.r.k : Int) + 1 := jwrap (by omega) (by omega)
        have HK3 := Lib.hid hk3
        clear hi41 hq he HS1' HS2' HS3' htv htr2 hres hvt hvt2 htr hte hk3
        go_wp2_with fail
        refine HOK.out.mono ?_
        rintro e w6 ⟨rfl, hw6⟩
        rw [hw6]
        clear hw6
        go_wp2_with fail
        refine HIS.out.mono ?_
        rintro e w7 ⟨rfl, m7, hw7⟩
        have m8 : PR w7 B N t ⟨M.r, P, M.g⟩ (.slice (some ⟨g, 0, none⟩) P.length cap) x3 x4 := by rw [hw7]; exact m4.drewN m7
        have p8 := p4.drewN m7
        rw [← hw7] at p8
        clear hw7 m4 p4
        obtain ⟨c0, c1, c6, c7⟩ := m8.rd.cells
        dsimp only at c1
        have f1 := m8.rd.free 1
        go_upto_region 15 with fail
        have r9 := m8.rd.step (by have := HK3.out; dsimp only; omega)
        have m9 := m8.step r9 (jgset w7 B 1 _)
        have p9 := p8.trans (PF.of _ (jgset w7 B 1 (.int .i64 ((M.r.k : Int) + 1))))
        dsimp only at m9
        generalize w7.setCell ⟨B, 1, none⟩ (.int .i64 ((M.r.k : Int) + 1)) = w9 at m9 p9 ⊢
        clear c0 c1 c6 c7 f1 r9 m8 p8
        have hb1 : (S.L.length : Int) < (P.length : Int) := by have := HNM.out; have := HPL.out; omega
        have hBg : B ≠ g := fun e => m9.ne (by rw [e]; rfl)
        obtain ⟨d2, d3, d4, d5⟩ := m9.rd.cells2
        have m9d : PR w9.drew B N t ⟨⟨M.r.k + 1, M.r.e, M.r.a⟩, P, M.g⟩ (.slice (some ⟨g, 0, none⟩) P.length cap) x3 x4 := m9.drewN 1
        have p9d : PF B v (.slice (some ⟨g, 0, none⟩) P.length cap) W w9.drew := p9.drewN 1
        clear m9 p9
        go_region_with (go_at_call 95; (with_reducible refine (HT.out _ m9d.rd).mono ?_); rintro e w10 ⟨rfl, r10, g10⟩; have m10 := m9d.step r10 g10; have p10 := p9d.trans (PF.of _ g10); obtain ⟨e2, e3, e4, e5⟩ := m10.rd.cells2; have hst := m10.row.stored (S.L.length * 9 + 1) (.int .i64 (tv : Int)); have hc := m10.row.cellAt (S.L.length * 9 + 1) (by have := HNM.out; have := HPL.out; omega); obtain ⟨cv, hcv⟩ : ∃ cv, w10.cell? ⟨g, S.L.length * 9 + 1, none⟩ = some cv := ⟨_, hc.trans (List.getElem?_eq_getElem (by rw [ndsC_length]; have := HNM.out; have := HPL.out; show S.L.length * 9 + 1 < P.length * 9; omega))⟩; clear hc; have hfr := m10.row.frozenAt (S.L.length * 9 + 1))
        all_goals
          obtain ⟨o11, g11⟩ := hst
          rw [ndsC_times P S.L.length tv (by have := HNM.out; have := HPL.out; omega)] at o11
          have r11 := m10.rd.kept g11 (fun e => hBg (by injection e))
          have p11 := p10.link g11 rfl
          have hhi := m10.hi
          clear hcv hfr e2 e3 e4 e5 m10 p10
          go_wp2_with fail
          refine bodyPost_ret (results_tmp rfl _ _ _) rfl ?_
          refine GPost.of ⟨(S.L.length : Int), ⟨tr, setTimes P S.L.length tv, M.g⟩, _, rfl, ⟨r11, ?_, hhi⟩, p11, HJ.out _ (by show (setTimes P _ _).length = _; rw [setTimes_length]; exact HPL.out) rfl HVT.out, fun _ => ⟨by rw [HRES.out], by rw [HRES.out]⟩, fun e => absurd (by rw [HRES.out]; exact HTE.out) e⟩
          show World.ownsRow _ N _ 9 _ (setTimes P _ _).length _
          rw [setTimes_length]
          exact o11
    · obtain ⟨e1, e2⟩ := HS1'.out he
      have HEE := Lib.hid (And.intro e1 e2)
      have HOK := Lib.hid (rok_q t M.r (.slice (some ⟨g, 0, none⟩) P.length cap) x3 x4 (.int .i64 (M.g : Int)) false (decide_eq_false he) w4 B m4.rd)
      have HE := Lib.hid he
      clear he e1 e2 HS1' HS2' HS3'
      go_wp2_with fail
      refine HOK.out.mono ?_
      rintro e w6 ⟨rfl, hw6⟩
      rw [hw6]
      clear hw6
      go_wp2_with fail
      go_ret
      exact GPost.of ⟨-1, ⟨M.r, P, M.g⟩, _, rfl, m4, p4, HJ.out _ HPL.out rfl (Nat.le_refl _), fun e => absurd (HEE.out.1.trans e) HE.out, fun _ => HEE.out⟩
end Go.Proofs.YtdnbnigebejgjaaGreatDoor
namespace Go.Proofs.YtdnbnigebejgjaaGreatDoor
open Go.RowKit
attribute [local go_sem] w_0 w_1 w_2 w_3
theorem atom_is (t : List UInt8) (S : PS) : (atomP t S).1 = S.L.length ∧ (atomP t S).2 = ⟨timesR t (setR t S.r) [1, 2, 3], S.L ++ [⟨1, (timesV t (setR t S.r) [1, 2, 3] : Nat), setV t S.r, 0, -1, -1⟩], S.g⟩ := by
  refine ⟨rfl, ?_⟩
  show PS.mk _ (setTimes (S.L ++ [bare 1 (setV t S.r) 0]) S.L.length _) S.g = _
  rw [setTimes_right0 S.L _ S.L.length rfl]
  rfl
theorem PR.keep' {w w' : World} {B N : Nat} {t : List UInt8} {S : PS} {v x3 x4 : Value} (h : PR w B N t S v x3 x4) (hg : w.grownBy w' none) : PR w' B N t S v x3 x4 :=
  ⟨h.rd.kept hg (by simp), h.row.kept hg (by cases v.ownBlock with
    | none => exact .inl rfl
    | some r => exact .inr (by simp)), h.hi⟩
/-- What a piece comes to. -/
def PPost (t : List UInt8) (B N : Nat) (S : PS) (v : Value) (W : World) (x3 x4 : Value) (R : Nat × PS) (e : Ending) (w' : World) : Prop :=
  ∃ (z : Int) (M : PS) (v' : Value), e = .returned (.int .i64 z) ∧ PR w' B N t M v' x3 x4 ∧ PF B v v' W w' ∧ JLE t 0 S M ∧
      (seesB t S.r behindL = true → (R.2.r.e = 0 → z = (R.1 : Int) ∧ M = R.2) ∧ (R.2.r.e ≠ 0 → M.r.e = R.2.r.e ∧ M.r.a = R.2.r.a)) ∧ (doomB t S.r = true → M.r.e = 3 ∧ M.r.a = S.r.k)
theorem PPost.of {t : List UInt8} {B N : Nat} {S : PS} {v : Value} {W : World} {x3 x4 : Value} {R : Nat × PS} {e : Ending} {w' : World} (h : ∃ (z : Int) (M : PS) (v' : Value), e = .returned (.int .i64 z) ∧ PR w' B N t M v' x3 x4 ∧ PF B v v' W w' ∧ JLE t 0 S M ∧
      (seesB t S.r behindL = true → (R.2.r.e = 0 → z = (R.1 : Int) ∧ M = R.2) ∧ (R.2.r.e ≠ 0 → M.r.e = R.2.r.e ∧ M.r.a = R.2.r.a)) ∧ (doomB t S.r = true → M.r.e = 3 ∧ M.r.a = S.r.k)) : PPost t B N S v W x3 x4 R e w' := h
set_option maxHeartbeats 16000000 in
set_option maxRecDepth 100000 in
theorem rPiece_step (t : List UInt8) (f : Nat) (B N : Nat) (x3 x4 : Value) (hP : PieceR t f (pcP t f) B N x3 x4) (S : PS) (v : Value) (W : World) (h : PR W B N t S v x3 x4) (h0 : S.r.e = 0) (hk : S.r.k < t.length) (hf : vl t S.r ≤ f + 1) (hw : (seesB t S.r behindL || doomB t S.r) = true) (hpot : pot t S ≤ 100000) (hgp : gp t S ≤ 100000) :
    Calls Tryz.prog 75 #[.pointer (some ⟨B, 0, none⟩)] W fun e w' => PPost t B N S v W x3 x4 (pcP t (f + 1) S) e w' := by
  have hlen := h.rd.len
  have hlt := h.lt
  have hNB := h.hi
  have hi40 := isB_take h0 40 (t := t)
  have hpc : pcP t (f + 1) S = pieceP t (pcP t f) S := rfl
  have hpr : Lib.hasPrefix (restR t S.r) [40] = takeB t S.r [40] := rfl
  have hpos : 0 < vl t S.r := by rw [vl_at h0]; omega
  have hrd := hd_at (t := t) h0 hk
  rw [hpc]
  unfold pieceP
  rw [hpr]
  cases h40 : takeB t S.r [40] with
  | true =>
    rw [if_pos rfl]
    rw [h40] at hi40
    have HIS := Lib.hid (rIs_at t S.r.k 40 40 rfl true hi40 W B S.r.e S.r.a v x3 x4 (.int .i64 (S.g : Int)) h.rd)
    have HGR := Lib.hid fun W' (h' : PR W' B N t S v x3 x4) => rGrp_any t f (pcP t f) B N x3 x4 (pcP_good t f) (pcP_frm t f) hP S v W' h' h0 h40 hf hpot hgp
    have HND : Hid (doomB t S.r = true → False) := Lib.hid fun hd => by
      have hc : t[S.r.k] = 40 := by
        rw [isB_in _ hk] at hi40
        simpa using hi40
      unfold doomB at hd
      rw [hrd, hc] at hd
      simp [behindL] at hd
    obtain ⟨R, hR⟩ : ∃ R, grpP t (pcP t f) S = R := ⟨_, rfl⟩
    rw [hR] at HGR ⊢
    clear hi40 h40 hpc hpr hrd hw hpot hgp hf hpos hk hR
    go_enter Tryz.func75, Tryz.ntmps75
    go_wp2_with fail
    refine HIS.out.mono ?_
    rintro e w1 ⟨rfl, m1, hw1⟩
    have n1 : PR w1 B N t S v x3 x4 := by rw [hw1]; exact h.drewN m1
    have p1 : PF B v v W w1 := by rw [hw1]; exact (PF.refl B v W).drewN m1
    clear hw1
    go_wp2_with fail
    refine (HGR.out _ n1).mono ?_
    rintro e w2 ⟨z, M, v2, rfl, m2, p2, j2, r1, r2⟩
    have HP2 := Lib.hid (p1.trans p2)
    have HJ2 := Lib.hid j2
    have HM2 := Lib.hid m2
    have HRR := Lib.hid (And.intro r1 r2)
    clear p2 j2 m2 r1 r2 p1 n1
    go_wp2_with fail
    refine bodyPost_ret (results_tmp rfl _ _ _) rfl ?_
    exact PPost.of ⟨z, M, v2, rfl, HM2.out, HP2.out, HJ2.out, fun _ => HRR.out, fun hd => (HND.out hd).elim⟩
  | false =>
    rw [if_neg (by simp)]
    rw [h40] at hi40
    have HIS := Lib.hid (rIs_at t S.r.k 40 40 rfl false hi40 W B S.r.e S.r.a v x3 x4 (.int .i64 (S.g : Int)) h.rd)
    have hc40 : t[S.r.k] ≠ 40 := by
      rw [isB_in _ hk] at hi40
      exact beq_eq_false_iff_ne.1 hi40
    have HAT := Lib.hid fun W' h' => rAtom_any t S.r v x3 x4 (.int .i64 (S.g : Int)) W' B h' h0 hk hc40
    obtain ⟨a1, a2⟩ := atom_is t S
    have hjl := (atom_le (t := t) (s := S) hpos).1
    have hr1 : (atomP t S).2.r = timesR t (setR t S.r) [1, 2, 3] := rfl
    have HAI := Lib.hid (And.intro a1 (And.intro a2 (And.intro hjl hr1)))
    have HSK := Lib.hid (set_k (t := t) (s := S.r) (by omega))
    have HW := Lib.hid hw
    have HL : Hid (S.L.length < 1000000) := Lib.hid (by unfold pot at hpot; omega)
    obtain ⟨R, hR⟩ : ∃ R, atomP t S = R := ⟨_, rfl⟩
    rw [hR] at HAI ⊢
    clear hi40 h40 hpc hpr hrd hw hpot hgp hf hpos hc40 a1 a2 hjl hr1 hR
    go_enter Tryz.func75, Tryz.ntmps75
    go_wp2_with fail
    refine HIS.out.mono ?_
    rintro e w1 ⟨rfl, m1, hw1⟩
    have n1 : PR w1 B N t S v x3 x4 := by rw [hw1]; exact h.drewN m1
    have p1 : PF B v v W w1 := by rw [hw1]; exact (PF.refl B v W).drewN m1
    clear hw1
    go_wp2_with fail
    refine (HAT.out _ n1.rd).mono ?_
    rintro e w2 ⟨⟨s0, s1, s2, s3⟩, s', rfl, hsee, hdoom, r2, g2⟩
    have m2 := n1.step r2 g2
    have p2 := p1.trans (PF.of v g2)
    have HSEE := Lib.hid hsee
    have HDOOM := Lib.hid hdoom
    clear hsee hdoom n1 p1 r2 g2 HAT HIS
    go_upto_region 4 with fail
    have q3 := Blk.new w2 ⟨s0, s1, s2, s3⟩
    have m3 := m2.keep' (World.grownBy_alloc w2 (.cells #[.int .u64 s0.toNat, .int .u64 s1.toNat, .int .u64 s2.toNat, .int .u64 s3.toNat] 41) none)
    have p3 := p2.grown (World.grownBy_alloc w2 (.cells #[.int .u64 s0.toNat, .int .u64 s1.toNat, .int .u64 s2.toNat, .int .u64 s3.toNat] 41) none) (by simp)
    dsimp only at q3
    obtain ⟨N2, hN2⟩ : ∃ N2, w2.heap.size = N2 := ⟨_, rfl⟩
    have hBN : B < N2 := by rw [← hN2]; exact m2.lt
    rw [hN2] at q3 ⊢
    generalize w2.alloc (.cells #[.int .u64 s0.toNat, .int .u64 s1.toNat, .int .u64 s2.toNat, .int .u64 s3.toNat] 41) = w3 at q3 m3 p3 ⊢
    clear hN2 m2 p2
    by_cases he : s'.e = 0
    · have HOK := Lib.hid (rok_q t s' v x3 x4 (.int .i64 (S.g : Int)) true (decide_eq_true he) w3 B m3.rd)
      have hnd : ¬ doomB t S.r = true := fun hd => by
        have := (HDOOM.out hd).1
        omega
      have hse : seesB t S.r behindL = true := by
        have := HW.out
        rw [show doomB t S.r = false by simpa using hnd, Bool.or_false] at this
        exact this
      obtain ⟨hgood, hbad⟩ := HSEE.out hse
      have hs0 : (setR t S.r).e = 0 := by
        by_cases hs0 : (setR t S.r).e = 0
        · exact hs0
        · exact absurd ((hbad hs0).1.symm.trans he) hs0
      obtain ⟨hV, rfl⟩ := hgood hs0
      have HT := Lib.hid fun W h => rTimes_any t (setR t S.r) v x3 x4 (.int .i64 (S.g : Int)) false W B h hs0 HSK.out
      rw [show timL false = [1, 2, 3] from rfl] at HT
      have hte : (timesR t (setR t S.r) [1, 2, 3]).e = 0 := by rw [timesR_e]; exact hs0
      have hAI := HAI.out
      rw [← hV] at hAI
      obtain ⟨tv, htv⟩ : ∃ x, timesV t (setR t S.r) [1, 2, 3] = x := ⟨_, rfl⟩
      obtain ⟨tr, htr⟩ : ∃ x, timesR t (setR t S.r) [1, 2, 3] = x := ⟨_, rfl⟩
      rw [htv, htr] at hAI HT
      rw [htr] at hte
      have HAI2 := Lib.hid hAI
      have HND := Lib.hid hnd
      have HTE := Lib.hid hte
      have HADD := Lib.hid fun W h1 h2 h3 => rAdd_any t tr v x3 x4 (.int .i64 (S.g : Int)) (⟨1, (tv : Int), ⟨s0, s1, s2, s3⟩, 0, 0, 0⟩ : ND) S.L HL.out N W B h3 h1 h2
      clear hnd hse hgood hbad hs0 hV htv htr hte hAI he HDOOM HSEE HAI
      go_wp2_with fail
      refine HOK.out.mono ?_
      rintro e w5 ⟨rfl, hw5⟩
      rw [hw5]
      clear hw5
      have m4 : PR w3.drew B N t ⟨setR t S.r, S.L, S.g⟩ v x3 x4 := m3.drewN 1
      have p4 : PF B v v W w3.drew := p3.drewN 1
      obtain ⟨k0, k1, k2, k3⟩ := q3.cells4
      go_wp2_with fail
      go_region_with (first
        | (go_at_call 95; (with_reducible refine (HT.out _ m4.rd).mono ?_); rintro e w6 ⟨rfl, r6, g6⟩; have m6 := m4.step r6 g6; have p6 := p4.trans (PF.of v g6); have q6 := q3.drew.kept g6 (jne (by omega)); obtain ⟨l0, l1, l2, l3⟩ := q6.cells4)
        | (go_at_call 55; refine (HADD.out _ m6.rd m6.row (by have := m6.lt; have := m6.hi; omega)).mono ?_; rintro e w7 ⟨rfl, v7, r7, o7, p7⟩))
      all_goals
        have m7 := m6.add (n := (⟨1, (tv : Int), ⟨s0, s1, s2, s3⟩, 0, 0, 0⟩ : ND)) r7 o7
        have HP7 := Lib.hid (p6.trans p7)
        have HM7 := Lib.hid m7
        clear m6 p6 q6 m4 p4 l0 l1 l2 l3 k0 k1 k2 k3 r7 o7 p7 m7
        go_wp2_with fail
        refine bodyPost_ret (results_tmp rfl _ _ _) rfl ?_
        obtain ⟨b1, b2, b3, b4⟩ := HAI2.out
        refine PPost.of ⟨(S.L.length : Int), R.2, v7, rfl, ?_, HP7.out, b3, fun _ => ⟨fun _ => ⟨by rw [b1], rfl⟩, fun _ => ⟨rfl, rfl⟩⟩, fun hd => ?_⟩
        · rw [b2]
          exact HM7.out
        · exact absurd hd HND.out
    · have HOK := Lib.hid (rok_q t s' v x3 x4 (.int .i64 (S.g : Int)) false (decide_eq_false he) w3 B m3.rd)
      have HE := Lib.hid he
      have HP3 := Lib.hid p3
      have HM3 := Lib.hid m3
      clear he
      go_wp2_with fail
      refine HOK.out.mono ?_
      rintro e w5 ⟨rfl, hw5⟩
      rw [hw5]
      clear hw5 p3 m3
      go_wp2_with fail
      refine bodyPost_ret (results_tmp rfl _ _ _) rfl ?_
      refine PPost.of ⟨-1, _, v, rfl, HM3.out, HP3.out, JLE.read (by rw [vl_zero HE.out]; exact Nat.zero_le _), fun hse => ?_, fun hd => HDOOM.out hd⟩
      obtain ⟨hgood, hbad⟩ := HSEE.out hse
      have hs0 : (setR t S.r).e ≠ 0 := fun hs0 => HE.out (by rw [(hgood hs0).2]; exact hs0)
      have hR : R.2.r = setR t S.r := by rw [HAI.out.2.2.2]; exact (times_bad hs0).2
      rw [hR]
      exact ⟨fun e => absurd e hs0, fun _ => hbad hs0⟩
theorem rPiece_any (t : List UInt8) (B N : Nat) (x3 x4 : Value) : ∀ f : Nat, PieceR t f (pcP t f) B N x3 x4
  | 0 => fun S v W h h0 hk hf _ _ _ => by
    rw [vl_at h0] at hf
    omega
  | f + 1 => fun S v W h h0 hk hf hw hpot hgp => rPiece_step t f B N x3 x4 (rPiece_any t B N x3 x4 f) S v W h h0 hk hf hw hpot hgp
end Go.Proofs.YtdnbnigebejgjaaGreatDoor
