/-
  The laws QueryCodes and QueryPairs return true for every input.
-/
import Derived.Test.YtbbphchhdppipaaDoorULaw0
import Derived.Test.YtbbphchhdppipaaDoorUPure2
namespace Go.Proofs.YtbbphchhdppipaaDoor
open Go.RowKit
section
attribute [local go_sem] eq_sets w_0 w_1 w_2 w_3
set_option maxRecDepth 100000 in
set_option maxHeartbeats 8000000 in
theorem codes_law (l : List UInt8) (w : World) :
    Calls Tryd.prog 3 #[.string ⟨l.toArray⟩] w fun e w' => e = .returned (.bool true) ∧ Below w.heap.size w w' := by
  by_cases hl : 300 < l.length
  · have d1 : decide ((300 : Int) < (l.length : Int)) = true := decide_eq_true (by omega)
    clear hl
    go_enter Tryd.func3, Tryd.ntmps3
    go_wp2_with fail
    refine (awake_any _).mono ?_
    rintro e w1 ⟨rfl, hb⟩
    go_wp2_with fail
    go_ret
    exact ⟨rfl, hb⟩
  · have d1 : decide ((300 : Int) < (l.length : Int)) = false := decide_eq_false (by omega)
    obtain ⟨a, b, c, d, hs⟩ : ∃ a b c d, Hid (stayS = ⟨a, b, c, d⟩) := ⟨_, _, _, _, Lib.hid rfl⟩
    have HS1 : Hid (∀ W, Calls Tryd.prog 11 #[] W fun e w' => e = .returned (.agg #[.int .u64 a.toNat, .int .u64 b.toNat, .int .u64 c.toNat, .int .u64 d.toNat]) ∧ Below W.heap.size W w') := Lib.hid fun W => stay_any a b c d hs W
    have HS2 : Hid (∀ W, Calls Tryd.prog 12 #[] W fun e w' => e = .returned (.agg #[.int .u64 a.toNat, .int .u64 b.toNat, .int .u64 c.toNat, .int .u64 d.toNat]) ∧ Below W.heap.size W w') := Lib.hid fun W => by
      have h := refStay_any W
      rw [hs.out] at h
      exact h
    obtain ⟨C, hC⟩ : ∃ C, codeL l = C := ⟨_, rfl⟩
    obtain ⟨m, hm⟩ : ∃ m, chkN l = m := ⟨_, rfl⟩
    obtain ⟨k, hk⟩ : ∃ k, litN l = k := ⟨_, rfl⟩
    have HE1 : Hid (∀ W, Calls Tryd.prog 13 #[.string ⟨l.toArray⟩] W fun e w' => e = .returned (.string ⟨C.toArray⟩) ∧ Below W.heap.size W w') := Lib.hid fun W => by
      have h := code_any l (by omega) W
      rwa [hC] at h
    have HE2 : Hid (∀ W, Calls Tryd.prog 14 #[.string ⟨l.toArray⟩] W fun e w' => e = .returned (.string ⟨C.toArray⟩) ∧ Below W.heap.size W w') := Lib.hid fun W => by
      have h := refCode_any l (by omega) W
      rwa [hC] at h
    have HC1 : Hid (∀ W, Calls Tryd.prog 15 #[.string ⟨l.toArray⟩] W fun e w' => e = .returned (.int .i64 (m : Nat)) ∧ Below W.heap.size W w') := Lib.hid fun W => by
      have h := check_q l (by omega) W
      rwa [hm] at h
    have HC2 : Hid (∀ W, Calls Tryd.prog 16 #[.string ⟨l.toArray⟩] W fun e w' => e = .returned (.int .i64 (m : Nat)) ∧ W = w') := Lib.hid fun W => by
      have h := refCheck_any l (by omega) W
      rwa [hm] at h
    have HL1 : Hid (∀ W, Calls Tryd.prog 17 #[.string ⟨l.toArray⟩] W fun e w' => e = .returned (.int .i64 (k : Nat)) ∧ Below W.heap.size W w') := Lib.hid fun W => by
      have h := literal_q l (by omega) W
      rwa [hk] at h
    have HL2 : Hid (∀ W, Calls Tryd.prog 18 #[.string ⟨l.toArray⟩] W fun e w' => e = .returned (.int .i64 (k : Nat)) ∧ Below W.heap.size W w') := Lib.hid fun W => by
      have h := refLiteral_any l (by omega) W
      rwa [hk] at h
    clear hC hm hk hs hl
    go_enter Tryd.func3, Tryd.ntmps3
    go_wp2_with fail
    refine (HS1.out _).mono ?_
    rintro e w1 ⟨rfl, hB1⟩
    go_wp2_with fail
    refine (HS2.out _).mono ?_
    rintro e w2 ⟨rfl, hb2⟩
    have hB2 := hB1.trans (hb2.mono hB1.size)
    clear hB1 hb2
    go_wp2_with fail
    refine (HE1.out _).mono ?_
    rintro e w3 ⟨rfl, hb3⟩
    have hB3 := hB2.trans (hb3.mono hB2.size)
    clear hB2 hb3
    go_wp2_with fail
    refine (HE2.out _).mono ?_
    rintro e w4 ⟨rfl, hb4⟩
    have hB4 := hB3.trans (hb4.mono hB3.size)
    clear hB3 hb4
    go_wp2_with fail
    refine (HC1.out _).mono ?_
    rintro e w5 ⟨rfl, hb5⟩
    have hB5 := hB4.trans (hb5.mono hB4.size)
    clear hB4 hb5
    go_wp2_with fail
    refine (HC2.out _).mono ?_
    rintro e w' ⟨rfl, rfl⟩
    go_wp2_with fail
    refine (HL1.out _).mono ?_
    rintro e w6 ⟨rfl, hb6⟩
    have hB6 := hB5.trans (hb6.mono hB5.size)
    clear hB5 hb6
    go_wp2_with fail
    refine (HL2.out _).mono ?_
    rintro e w7 ⟨rfl, hb7⟩
    have hB7 := hB6.trans (hb7.mono hB6.size)
    clear hB6 hb7
    go_wp2_with fail
    refine (awake_any _).mono ?_
    rintro e w8 ⟨rfl, hb8⟩
    go_wp2_with fail
    go_ret
    exact ⟨rfl, hB7.trans (hb8.mono hB7.size)⟩
end
set_option maxRecDepth 100000 in
set_option maxHeartbeats 8000000 in
theorem pairs_law (q n : List UInt8) (w : World) :
    Calls Tryd.prog 4 #[.string ⟨q.toArray⟩, .string ⟨n.toArray⟩] w fun e w' => e = .returned (.bool true) ∧ Below w.heap.size w w' := by
  have hcase : 300 < q.length ∨ (¬ 300 < q.length ∧ 300 < n.length) ∨ (¬ 300 < q.length ∧ ¬ 300 < n.length) := by omega
  rcases hcase with hl | ⟨hl, hl2⟩ | ⟨hl, hl2⟩
  · have d1 : decide ((300 : Int) < (q.length : Int)) = true := decide_eq_true (by omega)
    clear hl
    go_enter Tryd.func4, Tryd.ntmps4
    go_wp2_with fail
    refine (awake_any _).mono ?_
    rintro e w1 ⟨rfl, hb⟩
    go_wp2_with fail
    go_ret
    exact ⟨rfl, hb⟩
  · have d1 : decide ((300 : Int) < (q.length : Int)) = false := decide_eq_false (by omega)
    have d2 : decide ((300 : Int) < (n.length : Int)) = true := decide_eq_true (by omega)
    clear hl hl2
    go_enter Tryd.func4, Tryd.ntmps4
    go_wp2_with fail
    refine (awake_any _).mono ?_
    rintro e w1 ⟨rfl, hb⟩
    go_wp2_with fail
    go_ret
    exact ⟨rfl, hb⟩
  · have d1 : decide ((300 : Int) < (q.length : Int)) = false := decide_eq_false (by omega)
    have d2 : decide ((300 : Int) < (n.length : Int)) = false := decide_eq_false (by omega)
    have ps := prs_small (q := q)
    have ds := dec_small2 (q := q)
    have HP1 : Hid (∀ W, Calls Tryd.prog 19 #[.string ⟨q.toArray⟩] W fun e w' => PrsPost W.heap.size (prsR q) e w' ∧ Below W.heap.size W w') := Lib.hid fun W => pairs_any q (by omega) W
    have HP2 : Hid (∀ W, Calls Tryd.prog 20 #[.string ⟨q.toArray⟩] W fun e w' => PrsPost W.heap.size (prsR q) e w' ∧ Below W.heap.size W w') := Lib.hid fun W => refPairs_any q (by omega) W
    have HD1 : Hid (∀ W, Calls Tryd.prog 22 #[.string ⟨q.toArray⟩] W fun e w' => PrsPost W.heap.size (decR q) e w' ∧ Below W.heap.size W w') := Lib.hid fun W => decoded_any q (by omega) W
    have HD2 : Hid (∀ W, Calls Tryd.prog 23 #[.string ⟨q.toArray⟩] W fun e w' => PrsPost W.heap.size (decR q) e w' ∧ Below W.heap.size W w') := Lib.hid fun W => refDecoded_any q (by omega) W
    obtain ⟨R1, hR1⟩ : ∃ R, prsR q = R := ⟨_, rfl⟩
    obtain ⟨R2, hR2⟩ : ∃ R, decR q = R := ⟨_, rfl⟩
    obtain ⟨G, hG⟩ : ∃ R, getR q n = R := ⟨_, rfl⟩
    obtain ⟨K, hK⟩ : ∃ R, canR q = R := ⟨_, rfl⟩
    rw [hR1] at ps HP1 HP2
    rw [hR2] at ds HD1 HD2
    have HG1 : Hid (∀ W, Calls Tryd.prog 24 #[.string ⟨q.toArray⟩, .string ⟨n.toArray⟩] W fun e w' => e = .returned (.tuple #[.string ⟨(txtS G).toArray⟩, .int .i64 (errP G : Nat)]) ∧ Below W.heap.size W w') := Lib.hid fun W => by
      have h := get_any q n (by omega) W
      rwa [hG, str_form] at h
    have HG2 : Hid (∀ W, Calls Tryd.prog 25 #[.string ⟨q.toArray⟩, .string ⟨n.toArray⟩] W fun e w' => e = .returned (.tuple #[.string ⟨(txtS G).toArray⟩, .int .i64 (errP G : Nat)]) ∧ Below W.heap.size W w') := Lib.hid fun W => by
      have h := refGet_any q n (by omega) W
      rwa [hG, str_form] at h
    have HK1 : Hid (∀ W, Calls Tryd.prog 26 #[.string ⟨q.toArray⟩] W fun e w' => e = .returned (.tuple #[.string ⟨(txtS K).toArray⟩, .int .i64 (errP K : Nat)]) ∧ Below W.heap.size W w') := Lib.hid fun W => by
      have h := can_any q (by omega) W
      rwa [hK, str_form] at h
    have HK2 : Hid (∀ W, Calls Tryd.prog 27 #[.string ⟨q.toArray⟩] W fun e w' => e = .returned (.tuple #[.string ⟨(txtS K).toArray⟩, .int .i64 (errP K : Nat)]) ∧ Below W.heap.size W w') := Lib.hid fun W => by
      have h := refCan_any q (by omega) W
      rwa [hK, str_form] at h
    obtain ⟨GT, hGT⟩ : ∃ x, txtS G = x := ⟨_, rfl⟩
    obtain ⟨GE, hGE⟩ : ∃ x, errP G = x := ⟨_, rfl⟩
    obtain ⟨KT, hKT⟩ : ∃ x, txtS K = x := ⟨_, rfl⟩
    obtain ⟨KE, hKE⟩ : ∃ x, errP K = x := ⟨_, rfl⟩
    rw [hGT, hGE] at HG1 HG2
    rw [hKT, hKE] at HK1 HK2
    obtain ⟨L1, hL1⟩ : ∃ L, lstP R1 = L := ⟨_, rfl⟩
    obtain ⟨E1, hE1⟩ : ∃ L, errP R1 = L := ⟨_, rfl⟩
    obtain ⟨L2, hL2⟩ : ∃ L, lstP R2 = L := ⟨_, rfl⟩
    obtain ⟨E2, hE2⟩ : ∃ L, errP R2 = L := ⟨_, rfl⟩
    rw [hL1] at ps
    rw [hL2] at ds
    have HL1 := Lib.hid hL1
    have HX1 := Lib.hid hE1
    have HL2 := Lib.hid hL2
    have HX2 := Lib.hid hE2
    clear hR1 hR2 hG hK hGT hGE hKT hKE hL1 hE1 hL2 hE2 hl hl2
    go_enter Tryd.func4, Tryd.ntmps4
    go_wp2_with fail
    refine (HP1.out _).mono ?_
    rintro e w1 ⟨hpost, hB1⟩
    obtain ⟨p1, c1, rfl, a1⟩ := prs_res hpost
    rw [HL1.out, HX1.out]
    rw [HL1.out] at a1
    have A1 := Lib.hid a1
    clear hpost a1
    go_wp2_with fail
    refine (HP2.out _).mono ?_
    rintro e w2 ⟨hpost, hb2⟩
    obtain ⟨p2, c2, rfl, a2⟩ := prs_res hpost
    rw [HL1.out, HX1.out]
    rw [HL1.out] at a2
    have hB2 := hB1.trans (hb2.mono hB1.size)
    have A2 := Lib.hid a2
    have A1b := Lib.hid (A1.out.below hb2 (Nat.le_refl _))
    clear hpost a2 hB1 hb2
    go_wp2_with fail
    refine (same_any L1 (by omega) _ _ _ A1b.out A2.out).mono ?_
    rintro e w3 ⟨rfl, hb3⟩
    have hB3 := hB2.trans (hb3.mono hB2.size)
    clear hB2 hb3
    go_wp2_with fail
    refine (HD1.out _).mono ?_
    rintro e w4 ⟨hpost, hb4⟩
    obtain ⟨p4, c4, rfl, a4⟩ := prs_res hpost
    rw [HL2.out, HX2.out]
    rw [HL2.out] at a4
    have hB4 := hB3.trans (hb4.mono hB3.size)
    have A4 := Lib.hid a4
    clear hpost a4 hB3 hb4
    go_wp2_with fail
    refine (HD2.out _).mono ?_
    rintro e w5 ⟨hpost, hb5⟩
    obtain ⟨p5, c5, rfl, a5⟩ := prs_res hpost
    rw [HL2.out, HX2.out]
    rw [HL2.out] at a5
    have hB5 := hB4.trans (hb5.mono hB4.size)
    have A5 := Lib.hid a5
    have A4b := Lib.hid (A4.out.below hb5 (Nat.le_refl _))
    clear hpost a5 hB4 hb5
    go_wp2_with fail
    refine (same_any L2 (by omega) _ _ _ A4b.out A5.out).mono ?_
    rintro e w6 ⟨rfl, hb6⟩
    have hB6 := hB5.trans (hb6.mono hB5.size)
    clear hB5 hb6
    go_wp2_with fail
    refine (HG1.out _).mono ?_
    rintro e w7 ⟨rfl, hb7⟩
    have hB7 := hB6.trans (hb7.mono hB6.size)
    clear hB6 hb7
    go_wp2_with fail
    refine (HG2.out _).mono ?_
    rintro e w8 ⟨rfl, hb8⟩
    have hB8 := hB7.trans (hb8.mono hB7.size)
    clear hB7 hb8
    go_wp2_with fail
    refine (HK1.out _).mono ?_
    rintro e w9 ⟨rfl, hb9⟩
    have hB9 := hB8.trans (hb9.mono hB8.size)
    clear hB8 hb9
    go_wp2_with fail
    refine (HK2.out _).mono ?_
    rintro e w10 ⟨rfl, hb10⟩
    have hB10 := hB9.trans (hb10.mono hB9.size)
    clear hB9 hb10
    go_wp2_with fail
    refine (awake_any _).mono ?_
    rintro e w11 ⟨rfl, hb11⟩
    go_wp2_with fail
    go_ret
    exact ⟨rfl, hB10.trans (hb11.mono hB10.size)⟩
end Go.Proofs.YtbbphchhdppipaaDoor
