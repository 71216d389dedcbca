/-
  The reference's reader of patterns: a byte of a class.
-/
import Derived.Test.YtdnbnigebejgjaaGreatDoorHV4
namespace Go.Proofs.YtdnbnigebejgjaaGreatDoor
open Go.RowKit
theorem isB_take {t : List UInt8} {s : RS} (h : s.e = 0) (b : UInt8) : isB t s.k b = takeB t s [b] := by
  have hr : restR t s = t.drop s.k := if_pos h
  unfold isB
  cases hd : t.drop s.k with
  | nil => rw [take_nil (hr.trans hd)]
  | cons c z =>
    rw [take_hd (hr.trans hd)]
    exact Bool.beq_comm ..
theorem sees2 {t : List UInt8} {s : RS} (h : s.e = 0) (x y : UInt8) : seesB t s [x, y] = !(decide (t.length ≤ s.k) || (isB t s.k x || isB t s.k y)) := by
  have hr : restR t s = t.drop s.k := if_pos h
  unfold seesB isB
  rw [hr]
  by_cases hk : t.length ≤ s.k
  · rw [List.drop_eq_nil_of_le hk, decide_eq_true hk]
    rfl
  · rw [List.drop_eq_getElem_cons (by omega), decide_eq_false hk]
    simp only [seesL, List.contains_cons, List.contains_nil, Bool.or_false, Bool.false_or]
theorem one_no {t : List UInt8} {n e a : Nat} {o : List UInt8} (h : seesB t ⟨n, e, a⟩ o = false) : oneV t ⟨n, e, a⟩ o = 0 ∧ oneR t ⟨n, e, a⟩ o = failR ⟨n, e, a⟩ 3 n := by
  unfold oneV oneR
  rw [if_neg (by rw [h]; simp), if_neg (by rw [h]; simp)]
  exact ⟨rfl, rfl⟩
theorem one_yes {t : List UInt8} {n e a : Nat} {o : List UInt8} (h : seesB t ⟨n, e, a⟩ o = true) (hn : n < t.length) : oneV t ⟨n, e, a⟩ o = t[n] ∧ oneR t ⟨n, e, a⟩ o = ⟨n + 1, e, a⟩ := by
  unfold oneV oneR
  rw [if_pos h, if_pos h]
  refine ⟨?_, rfl⟩
  rw [List.getD_eq_getElem?_getD, List.getElem?_eq_getElem hn]
  rfl
theorem rIs_at (t : List UInt8) (k : Nat) (b : UInt8) (i : Int) (hi : (b.toNat : Int) = i) (q : Bool) (hq : isB t k b = q) (W : World) (B : Nat) (e a : Nat) (x2 x3 x4 x5 : Value) (h : RF W B t ⟨k, e, a⟩ x2 x3 x4 x5) :
    Calls Tryz.prog 33 #[.pointer (some ⟨B, 0, none⟩), .int .u8 i] W fun x w' => x = .returned (.bool q) ∧ ∃ m, w' = W.drewN m := by
  rw [← hq, ← hi]
  exact rIs_any t ⟨k, e, a⟩ x2 x3 x4 x5 b W B h
theorem eq_nat (a b : Nat) : ((a : Int) == (b : Int)) = decide (a = b) := by
  rw [Bool.eq_iff_iff, beq_iff_eq, decide_eq_true_iff]
  omega
set_option maxHeartbeats 8000000 in
set_option maxRecDepth 100000 in
theorem rByte_any (t : List UInt8) (s : RS) (x2 x3 x4 x5 : Value) (W : World) (B : Nat) (h : RF W B t s x2 x3 x4 x5) (h0 : s.e = 0) (hle : s.k ≤ t.length) :
    Calls Tryz.prog 130 #[.pointer (some ⟨B, 0, none⟩)] W fun e w' => e = .returned (.int .u8 ((cbV t s).toNat : Int)) ∧ RF w' B t (cbR t s) x2 x3 x4 x5 ∧ W.grownBy w' (some B) := by
  obtain ⟨k, e0, a0⟩ := s
  dsimp only at h0 hle
  subst h0
  have hlen := h.len
  have hT := isB_take (t := t) (s := ⟨k, 0, a0⟩) rfl 92
  dsimp only at hT
  cases hq : takeB t ⟨k, 0, a0⟩ [92] with
  | true =>
    rw [hq] at hT
    have hlt : k < t.length := by
      by_cases hlt : k < t.length
      · exact hlt
      · rw [isB_out _ (by omega)] at hT; cases hT
    have e1 : takeR t ⟨k, 0, a0⟩ [92] = ⟨k + 1, 0, a0⟩ := by unfold takeR; rw [if_pos hq]; rfl
    have HV : Hid (cbV t ⟨k, 0, a0⟩ = oneV t ⟨k + 1, 0, a0⟩ [100, 119] ∧ cbR t ⟨k, 0, a0⟩ = oneR t ⟨k + 1, 0, a0⟩ [100, 119]) := Lib.hid (by unfold cbV cbR; rw [if_pos hq, if_pos hq, e1]; exact ⟨rfl, rfl⟩)
    have H92 := Lib.hid fun W h => rIs_at t k 92 92 rfl true hT W B 0 a0 x2 x3 x4 x5 h
    have wk : IntKind.i64.wrap ((k : Int) + 1) = (k : Int) + 1 := jwrap (by omega) (by omega)
    have HCA : Hid ((k : Int) + 1 = ((k + 1 : Nat) : Int)) := Lib.hid (by omega)
    clear hT hq e1
    go_enter Tryz.func130, Tryz.ntmps130
    go_wp2_with fail
    refine (H92.out _ h).mono ?_
    rintro e w1 ⟨rfl, m1, hw1⟩
    have h1 : RF w1 B t ⟨k, 0, a0⟩ x2 x3 x4 x5 := by rw [hw1]; exact h.drewN m1
    have hb1 : W.grownBy w1 (some B) := by rw [hw1]; exact jgdrewN (jgrefl W _) m1
    clear hw1
    obtain ⟨c0, c1, c6, c7⟩ := h1.cells
    have f1 := h1.free 1
    dsimp only at c1
    go_wp2_with fail
    have h2 := h1.step (by omega)
    have hg2 : W.grownBy (w1.setCell ⟨B, 1, none⟩ (.int .i64 ((k : Int) + 1))) (some B) := jgtrans hb1 (jgset _ B 1 _)
    dsimp only at h2
    generalize w1.setCell ⟨B, 1, none⟩ (.int .i64 ((k : Int) + 1)) = Y at h2 hg2 ⊢
    clear c0 c1 c6 c7 f1 hb1 h1 wk h
    have hnl : k + 1 ≤ t.length := hlt
    generalize k + 1 = n at HV HCA h2 hnl
    rw [HCA.out]
    clear HCA hlt hle
    have hS := sees2 (t := t) (s := ⟨n, 0, a0⟩) rfl 100 119
    dsimp only at hS
    obtain ⟨q1, hq1⟩ : ∃ q, isB t n 100 = q := ⟨_, rfl⟩
    obtain ⟨q2, hq2⟩ : ∃ q, isB t n 119 = q := ⟨_, rfl⟩
    have H1 := Lib.hid fun W h => rIs_at t n 100 100 rfl q1 hq1 W B 0 a0 x2 x3 x4 x5 h
    have H2 := Lib.hid fun W h => rIs_at t n 119 119 rfl q2 hq2 W B 0 a0 x2 x3 x4 x5 h
    have HW := Lib.hid fun W h => rWrong_any t ⟨n, 0, a0⟩ x2 x3 x4 x5 3 n W B h
    have HQ := Lib.hid fun m => h2.drewN m
    rw [hq1, hq2] at hS
    obtain ⟨d0, d1, d6, d7⟩ := h2.cells
    dsimp only at d1
    by_cases hend : n = t.length
    · have a1 : ((n : Int) == (t.length : Int)) = true := by rw [eq_nat]; exact decide_eq_true hend
      rw [decide_eq_true (by omega : t.length ≤ n), Bool.true_or, Bool.not_true] at hS
      have HR := Lib.hid (one_no hS)
      clear hS hq1 hq2 hend
      go_quiet (fail)
      go_wp2_with fail
      refine (HW.out _ (HQ.out _)).mono ?_
      rintro e w3 ⟨rfl, h3, g3⟩
      go_wp2_with fail
      go_ret
      exact ⟨by rw [HV.out.1, HR.out.1]; rfl, by rw [HV.out.2, HR.out.2]; exact h3, jgtrans (jgdrewN hg2 _) g3⟩
    · have hlt : n < t.length := by omega
      have a1 : ((n : Int) == (t.length : Int)) = false := by rw [eq_nat]; exact decide_eq_false hend
      rw [decide_eq_false (by omega : ¬ t.length ≤ n), Bool.false_or] at hS
      cases q1 with
      | true =>
        have HR := Lib.hid (one_no hS)
        clear hS hq1 hq2 hend
        go_quiet (first | (go_at_call 33; with_reducible exact Calls.quiet_of (H1.out _ (HQ.out _))) | (go_at_call 33; with_reducible exact Calls.quiet_of (H2.out _ (HQ.out _))))
        go_wp2_with fail
        refine (HW.out _ (HQ.out _)).mono ?_
        rintro e w3 ⟨rfl, h3, g3⟩
        go_wp2_with fail
        go_ret
        exact ⟨by rw [HV.out.1, HR.out.1]; rfl, by rw [HV.out.2, HR.out.2]; exact h3, jgtrans (jgdrewN hg2 _) g3⟩
      | false =>
        cases q2 with
        | true =>
          have HR := Lib.hid (one_no hS)
          clear hS hq1 hq2 hend
          go_quiet (first | (go_at_call 33; with_reducible exact Calls.quiet_of (H1.out _ (HQ.out _))) | (go_at_call 33; with_reducible exact Calls.quiet_of (H2.out _ (HQ.out _))))
          go_wp2_with fail
          refine (HW.out _ (HQ.out _)).mono ?_
          rintro e w3 ⟨rfl, h3, g3⟩
          go_wp2_with fail
          go_ret
          exact ⟨by rw [HV.out.1, HR.out.1]; rfl, by rw [HV.out.2, HR.out.2]; exact h3, jgtrans (jgdrewN hg2 _) g3⟩
        | false =>
          have HR := Lib.hid (one_yes hS hlt)
          obtain ⟨c, hc⟩ : ∃ c, t[n] = c := ⟨_, rfl⟩
          have hx : n < (ByteArray.mk t.toArray).size := hlt
          have g1 := ba_get t n hx
          rw [hc] at g1 HR
          have ww1 : IntKind.i64.wrap ((n : Int) + 1) = (n : Int) + 1 := jwrap (by omega) (by omega)
          have ww2 : IntKind.i64.wrap ((n : Int) + 1 - 1) = (n : Int) := by rw [jwrap (by omega) (by omega)]; omega
          have hb9 : (n : Int) < (t.length : Int) := by omega
          have f1 := h2.free 1
          clear hS hq1 hq2 hend hc
          go_quiet (first | (go_at_call 33; with_reducible exact Calls.quiet_of (H1.out _ (HQ.out _))) | (go_at_call 33; with_reducible exact Calls.quiet_of (H2.out _ (HQ.out _))))
          go_wp2_with fail
          go_quiet (fail)
          go_wp2_with fail
          go_ret
          exact ⟨by rw [HV.out.1, HR.out.1]; rfl, by rw [HV.out.2, HR.out.2]; exact ((HQ.out _).step (by omega)).drewN _, jgdrewN (jgtrans (jgdrewN hg2 _) (jgset _ B 1 _)) _⟩
  | false =>
    rw [hq] at hT
    have HV : Hid (cbV t ⟨k, 0, a0⟩ = oneV t ⟨k, 0, a0⟩ [93, 45] ∧ cbR t ⟨k, 0, a0⟩ = oneR t ⟨k, 0, a0⟩ [93, 45]) := Lib.hid (by unfold cbV cbR; rw [if_neg (by rw [hq]; simp), if_neg (by rw [hq]; simp)]; exact ⟨rfl, rfl⟩)
    have H92 := Lib.hid fun W h => rIs_at t k 92 92 rfl false hT W B 0 a0 x2 x3 x4 x5 h
    clear hT hq
    go_enter Tryz.func130, Tryz.ntmps130
    go_wp2_with fail
    refine (H92.out _ h).mono ?_
    rintro e Y ⟨rfl, m1, hw1⟩
    have h2 : RF Y B t ⟨k, 0, a0⟩ x2 x3 x4 x5 := by rw [hw1]; exact h.drewN m1
    have hg2 : W.grownBy Y (some B) := by rw [hw1]; exact jgdrewN (jgrefl W _) m1
    clear hw1 h
    have hnl : k ≤ t.length := hle
    obtain ⟨n, hn⟩ : ∃ n, k = n := ⟨_, rfl⟩
    subst hn
    clear hle
    go_wp2_with fail
    have hS := sees2 (t := t) (s := ⟨k, 0, a0⟩) rfl 93 45
    dsimp only at hS
    obtain ⟨q1, hq1⟩ : ∃ q, isB t k 93 = q := ⟨_, rfl⟩
    obtain ⟨q2, hq2⟩ : ∃ q, isB t k 45 = q := ⟨_, rfl⟩
    have H1 := Lib.hid fun W h => rIs_at t k 93 93 rfl q1 hq1 W B 0 a0 x2 x3 x4 x5 h
    have H2 := Lib.hid fun W h => rIs_at t k 45 45 rfl q2 hq2 W B 0 a0 x2 x3 x4 x5 h
    have HW := Lib.hid fun W h => rWrong_any t ⟨k, 0, a0⟩ x2 x3 x4 x5 3 k W B h
    have HQ := Lib.hid fun m => h2.drewN m
    rw [hq1, hq2] at hS
    obtain ⟨d0, d1, d6, d7⟩ := h2.cells
    dsimp only at d1
    by_cases hend : k = t.length
    · have a1 : ((k : Int) == (t.length : Int)) = true := by rw [eq_nat]; exact decide_eq_true hend
      rw [decide_eq_true (by omega : t.length ≤ k), Bool.true_or, Bool.not_true] at hS
      have HR := Lib.hid (one_no hS)
      clear hS hq1 hq2 hend
      go_quiet (fail)
      go_wp2_with fail
      refine (HW.out _ (HQ.out _)).mono ?_
      rintro e w3 ⟨rfl, h3, g3⟩
      go_wp2_with fail
      go_ret
      exact ⟨by rw [HV.out.1, HR.out.1]; rfl, by rw [HV.out.2, HR.out.2]; exact h3, jgtrans (jgdrewN hg2 _) g3⟩
    · have hlt : k < t.length := by omega
      have a1 : ((k : Int) == (t.length : Int)) = false := by rw [eq_nat]; exact decide_eq_false hend
      rw [decide_eq_false (by omega : ¬ t.length ≤ k), Bool.false_or] at hS
      cases q1 with
      | true =>
        have HR := Lib.hid (one_no hS)
        clear hS hq1 hq2 hend
        go_quiet (first | (go_at_call 33; with_reducible exact Calls.quiet_of (H1.out _ (HQ.out _))) | (go_at_call 33; with_reducible exact Calls.quiet_of (H2.out _ (HQ.out _))))
        go_wp2_with fail
        refine (HW.out _ (HQ.out _)).mono ?_
        rintro e w3 ⟨rfl, h3, g3⟩
        go_wp2_with fail
        go_ret
        exact ⟨by rw [HV.out.1, HR.out.1]; rfl, by rw [HV.out.2, HR.out.2]; exact h3, jgtrans (jgdrewN hg2 _) g3⟩
      | false =>
        cases q2 with
        | true =>
          have HR := Lib.hid (one_no hS)
          clear hS hq1 hq2 hend
          go_quiet (first | (go_at_call 33; with_reducible exact Calls.quiet_of (H1.out _ (HQ.out _))) | (go_at_call 33; with_reducible exact Calls.quiet_of (H2.out _ (HQ.out _))))
          go_wp2_with fail
          refine (HW.out _ (HQ.out _)).mono ?_
          rintro e w3 ⟨rfl, h3, g3⟩
          go_wp2_with fail
          go_ret
          exact ⟨by rw [HV.out.1, HR.out.1]; rfl, by rw [HV.out.2, HR.out.2]; exact h3, jgtrans (jgdrewN hg2 _) g3⟩
        | false =>
          have HR := Lib.hid (one_yes hS hlt)
          obtain ⟨c, hc⟩ : ∃ c, t[k] = c := ⟨_, rfl⟩
          have hx : k < (ByteArray.mk t.toArray).size := hlt
          have g1 := ba_get t k hx
          rw [hc] at g1 HR
          have ww1 : IntKind.i64.wrap ((k : Int) + 1) = (k : Int) + 1 := jwrap (by omega) (by omega)
          have ww2 : IntKind.i64.wrap ((k : Int) + 1 - 1) = (k : Int) := by rw [jwrap (by omega) (by omega)]; omega
          have hb9 : (k : Int) < (t.length : Int) := by omega
          have f1 := h2.free 1
          clear hS hq1 hq2 hend hc
          go_quiet (first | (go_at_call 33; with_reducible exact Calls.quiet_of (H1.out _ (HQ.out _))) | (go_at_call 33; with_reducible exact Calls.quiet_of (H2.out _ (HQ.out _))))
          go_wp2_with fail
          go_quiet (fail)
          go_wp2_with fail
          go_ret
          exact ⟨by rw [HV.out.1, HR.out.1]; rfl, by rw [HV.out.2, HR.out.2]; exact ((HQ.out _).step (by omega)).drewN _, jgdrewN (jgtrans (jgdrewN hg2 _) (jgset _ B 1 _)) _⟩
end Go.Proofs.YtdnbnigebejgjaaGreatDoor
