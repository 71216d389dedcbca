/-
  The laws QueryEncodes and QueryJoins return true for every input.
-/
import Derived.Test.YtbbphchhdppipaaDoorULaw0
import Derived.Test.YtbbphchhdppipaaDoorUPure3
namespace Go.Proofs.YtbbphchhdppipaaDoor
open Go.RowKit
set_option maxRecDepth 100000 in
set_option maxHeartbeats 8000000 in
theorem encodes_law (s t : List UInt8) (w : World) :
    Calls Tryd.prog 7 #[.string ⟨s.toArray⟩, .string ⟨t.toArray⟩] w fun e w' => e = .returned (.bool true) ∧ Below w.heap.size w w' := by
  have hcase : 200 < s.length ∨ (¬ 200 < s.length ∧ 200 < t.length) ∨ (¬ 200 < s.length ∧ ¬ 200 < t.length) := by omega
  rcases hcase with hl | ⟨hl, hl2⟩ | ⟨hl, hl2⟩
  · have d1 : decide ((200 : Int) < (s.length : Int)) = true := decide_eq_true (by omega)
    clear hl
    go_enter Tryd.func7, Tryd.ntmps7
    go_wp2_with fail
    refine (awake_any _).mono ?_
    rintro e w1 ⟨rfl, hb⟩
    go_wp2_with fail
    go_ret
    exact ⟨rfl, hb⟩
  · have d1 : decide ((200 : Int) < (s.length : Int)) = false := decide_eq_false (by omega)
    have d2 : decide ((200 : Int) < (t.length : Int)) = true := decide_eq_true (by omega)
    clear hl hl2
    go_enter Tryd.func7, Tryd.ntmps7
    go_wp2_with fail
    refine (awake_any _).mono ?_
    rintro e w1 ⟨rfl, hb⟩
    go_wp2_with fail
    go_ret
    exact ⟨rfl, hb⟩
  · have d1 : decide ((200 : Int) < (s.length : Int)) = false := decide_eq_false (by omega)
    have d2 : decide ((200 : Int) < (t.length : Int)) = false := decide_eq_false (by omega)
    have hc1 := code_len s
    have hc2 := code_len t
    have hlit := code_lit s
    have hdec := dec_ok (code_back s).1 0
    rw [(code_back s).2] at hdec
    have heq := code_eq s t
    have happ := code_app s t
    obtain ⟨Z, hZ⟩ : ∃ Z, s ++ t = Z := ⟨_, rfl⟩
    have hZl : Z.length = s.length + t.length := by rw [← hZ, List.length_append]
    rw [hZ] at happ
    have HE1 : Hid (∀ W, Calls Tryd.prog 13 #[.string ⟨s.toArray⟩] W fun e w' => e = .returned (.string ⟨(codeL s).toArray⟩) ∧ Below W.heap.size W w') := Lib.hid fun W => code_any s (by omega) W
    have HE2 : Hid (∀ W, Calls Tryd.prog 13 #[.string ⟨t.toArray⟩] W fun e w' => e = .returned (.string ⟨(codeL t).toArray⟩) ∧ Below W.heap.size W w') := Lib.hid fun W => code_any t (by omega) W
    have HE3 : Hid (∀ W, Calls Tryd.prog 13 #[.string ⟨Z.toArray⟩] W fun e w' => e = .returned (.string ⟨(codeL Z).toArray⟩) ∧ Below W.heap.size W w') := Lib.hid fun W => code_any Z (by omega) W
    have HL : Hid (∀ W, Calls Tryd.prog 17 #[.string ⟨(codeL s).toArray⟩] W fun e w' => e = .returned (.int .i64 (0 : Nat)) ∧ Below W.heap.size W w') := Lib.hid fun W => by
      have h := literal_q (codeL s) (by omega) W
      rwa [hlit] at h
    have HD : Hid (∀ W, Calls Tryd.prog 36 #[.string ⟨(codeL s).toArray⟩] W fun e w' => e = .returned (.tuple #[.string ⟨s.toArray⟩, .agg #[.int .i64 0, .int .i64 0]]) ∧ Below W.heap.size W w') := Lib.hid fun W => by
      have h := decode_any (codeL s) (by omega) W
      rw [hdec] at h
      exact h
    obtain ⟨A, hA⟩ : ∃ A, codeL s = A := ⟨_, rfl⟩
    obtain ⟨B, hBe⟩ : ∃ A, codeL t = A := ⟨_, rfl⟩
    obtain ⟨C, hC⟩ : ∃ A, codeL Z = A := ⟨_, rfl⟩
    rw [hA] at HE1 HL HD heq happ hc1
    rw [hBe] at HE2 heq happ hc2
    rw [hC] at HE3 happ
    obtain ⟨x, hx⟩ : ∃ x, (s == t) = x := ⟨_, rfl⟩
    rw [hx] at heq
    have s1 : ∀ w, (Op.stringOp .add ⟨s.toArray⟩ ⟨t.toArray⟩).run Tryd.prog w = .ok (.string ⟨Z.toArray⟩) w := str_add_to hZ (by omega)
    have s2 : ∀ w, (Op.stringOp .add ⟨A.toArray⟩ ⟨B.toArray⟩).run Tryd.prog w = .ok (.string ⟨C.toArray⟩) w := str_add_to happ.symm (by omega)
    clear hl hl2 hlit hdec hZ hZl hA hBe hC happ hc1 hc2
    go_enter Tryd.func7, Tryd.ntmps7
    go_wp2_with fail
    refine (HE1.out _).mono ?_
    rintro e w1 ⟨rfl, hB1⟩
    go_wp2_with fail
    refine (HE2.out _).mono ?_
    rintro e w2 ⟨rfl, hb2⟩
    have hB2 := hB1.trans (hb2.mono hB1.size)
    clear hB1 hb2
    go_wp2_with fail
    refine (HD.out _).mono ?_
    rintro e w3 ⟨rfl, hb3⟩
    have hB3 := hB2.trans (hb3.mono hB2.size)
    have f3 : CBlk 48 (w3.alloc (.cells #[.int .i64 0, .int .i64 0] 48)) w3.heap.size [.int .i64 0, .int .i64 0] := CBlk.new _ w3 _
    have hB4 := hB3.alloc hB3.size (.cells #[.int .i64 0, .int .i64 0] 48)
    clear hB2 hb3 hB3
    go_wp2_with fail
    obtain ⟨F1, hF1⟩ : ∃ F1, w3.heap.size = F1 := ⟨_, rfl⟩
    obtain ⟨w4, hw4⟩ : ∃ w4, w3.alloc (.cells #[.int .i64 0, .int .i64 0] 48) = w4 := ⟨_, rfl⟩
    rw [hF1] at f3
    rw [hw4] at f3 hB4
    try rw [hF1]
    try rw [hw4]
    clear hF1 hw4
    refine (HL.out _).mono ?_
    rintro e w5 ⟨rfl, hb5⟩
    have c5 := (f3.below hb5 f3.lt).cell 0 (by simp)
    have hB5 := hB4.trans (hb5.mono hB4.size)
    clear hB4 hb5 f3
    go_wp2_with fail
    refine (HE3.out _).mono ?_
    rintro e w6 ⟨rfl, hb6⟩
    have hB6 := hB5.trans (hb6.mono hB5.size)
    clear hB5 hb6
    go_wp2_with fail
    refine (awake_any _).mono ?_
    rintro e w7 ⟨rfl, hb7⟩
    go_wp2_with fail
    go_ret
    exact ⟨rfl, hB6.trans (hb7.mono hB6.size)⟩
set_option maxRecDepth 100000 in
set_option maxHeartbeats 8000000 in
theorem joins_law (L : List Pr) (_ : L.length ≤ 9223372036854775807) (p : Option Addr) (c : Nat) (hp : p = none → c = 0) (q m : List UInt8) (w : World) (hC : PrsIn w p L) :
    Calls Tryd.prog 5 #[.slice p L.length c, .string ⟨q.toArray⟩, .string ⟨m.toArray⟩] w fun e w' => e = .returned (.bool true) ∧ Below w.heap.size w w' := by
  have hcase : 60 < L.length ∨ (¬ 60 < L.length ∧ 300 < q.length) ∨ (¬ 60 < L.length ∧ ¬ 300 < q.length ∧ 300 < m.length) ∨ (¬ 60 < L.length ∧ ¬ 300 < q.length ∧ ¬ 300 < m.length) := by omega
  rcases hcase with h1 | ⟨h1, h2⟩ | ⟨h1, h2, h3⟩ | ⟨h1, h2, h3⟩
  · have d1 : decide ((60 : Int) < (L.length : Int)) = true := decide_eq_true (by omega)
    clear h1
    go_enter Tryd.func5, Tryd.ntmps5
    go_wp2_with fail
    refine (awake_any _).mono ?_
    rintro e w1 ⟨rfl, hb⟩
    go_wp2_with fail
    go_ret
    exact ⟨rfl, hb⟩
  · have d1 : decide ((60 : Int) < (L.length : Int)) = false := decide_eq_false (by omega)
    have d2 : decide ((300 : Int) < (q.length : Int)) = true := decide_eq_true (by omega)
    clear h1 h2
    go_enter Tryd.func5, Tryd.ntmps5
    go_wp2_with fail
    refine (awake_any _).mono ?_
    rintro e w1 ⟨rfl, hb⟩
    go_wp2_with fail
    go_ret
    exact ⟨rfl, hb⟩
  · have d1 : decide ((60 : Int) < (L.length : Int)) = false := decide_eq_false (by omega)
    have d2 : decide ((300 : Int) < (q.length : Int)) = false := decide_eq_false (by omega)
    have d3 : decide ((300 : Int) < (m.length : Int)) = true := decide_eq_true (by omega)
    clear h1 h2 h3
    go_enter Tryd.func5, Tryd.ntmps5
    go_wp2_with fail
    refine (awake_any _).mono ?_
    rintro e w1 ⟨rfl, hb⟩
    go_wp2_with fail
    go_ret
    exact ⟨rfl, hb⟩
  · have d1 : decide ((60 : Int) < (L.length : Int)) = false := decide_eq_false (by omega)
    have d2 : decide ((300 : Int) < (q.length : Int)) = false := decide_eq_false (by omega)
    have d3 : decide ((300 : Int) < (m.length : Int)) = false := decide_eq_false (by omega)
    have hLs : L.length < 1000 := by omega
    have hqs : q.length < 1000 := by omega
    have hms : m.length < 1000 := by omega
    have HC := Lib.hid hC
    have HPN := Lib.hid hp
    clear hC h1 h2 h3 hp
    go_enter Tryd.func5, Tryd.ntmps5
    go_wp2_with fail
    go_loopw [7] (fun i wr => ∃ k : Nat, k ≤ L.length ∧ i = .int .i64 k ∧ Hid (∀ x ∈ L.take k, x.nm.length < 1000 ∧ x.vl.length < 1000) ∧ wr = w) (fun i _ => L.length - (intOf i).toNat)
    case atStart => exact ⟨0, by omega, rfl, Lib.hid (by simp), rfl⟩
    case round =>
    obtain ⟨k, hk, rfl, hsm, rfl⟩ := hrel
    by_cases hlt : k < L.length
    · have d4 : decide ((k : Int) < (L.length : Int)) = true := decide_eq_true (by omega)
      have hb2 : (k : Int) < (L.length : Int) := by omega
      obtain ⟨b, off, rfl, hbl, x0, x1, x2⟩ := pr_cells HC.out (Below.refl _ _) hlt
      have hnext : (L[k]).nm.length < 1000 ∧ (L[k]).vl.length < 1000 → ∀ x ∈ L.take (k + 1), x.nm.length < 1000 ∧ x.vl.length < 1000 := fun h x hx => by
        rw [List.take_succ_eq_append_getElem hlt] at hx
        rcases List.mem_append.1 hx with hx | hx
        · exact hsm.out x hx
        · rw [List.mem_singleton.1 hx]
          exact h
      obtain ⟨P, hP⟩ : ∃ P, L[k] = P := ⟨_, rfl⟩
      rw [hP] at x0 x1 x2 hnext
      clear hP
      obtain ⟨nm, vl, br⟩ := P
      dsimp only at x0 x1 x2 hnext
      by_cases e1 : 100 < nm.length
      · have d5 : decide ((100 : Int) < (nm.length : Int)) = true := decide_eq_true (by omega)
        clear e1 hnext hsm
        go_wp2_with fail
        refine (awake_any _).mono ?_
        rintro e w1 ⟨rfl, hb⟩
        go_wp2_with fail
        go_ret
        exact ⟨rfl, hb⟩
      · have d5 : decide ((100 : Int) < (nm.length : Int)) = false := decide_eq_false (by omega)
        by_cases e2 : 100 < vl.length
        · have d6 : decide ((100 : Int) < (vl.length : Int)) = true := decide_eq_true (by omega)
          clear e1 e2 hnext hsm
          go_wp2_with fail
          refine (awake_any _).mono ?_
          rintro e w1 ⟨rfl, hb⟩
          go_wp2_with fail
          go_ret
          exact ⟨rfl, hb⟩
        · have d6 : decide ((100 : Int) < (vl.length : Int)) = false := decide_eq_false (by omega)
          have hnext := Lib.hid (hnext ⟨by omega, by omega⟩)
          clear e1 e2 hsm
          go_wp2_with fail
          go_roundw
          case rel => exact ⟨k + 1, by omega, by go_num, hnext, trivial⟩
          case measure => simp [intOf]; omega
    · have d4 : decide ((k : Int) < (L.length : Int)) = false := decide_eq_false (by omega)
      have hall : ∀ x ∈ L, x.nm.length < 1000 ∧ x.vl.length < 1000 := by
        have := hsm.out
        rwa [List.take_of_length_le (by omega)] at this
      obtain ⟨R, hR⟩ : ∃ R, joinR L = R := ⟨_, rfl⟩
      obtain ⟨G, hG⟩ : ∃ R, appR q m = R := ⟨_, rfl⟩
      obtain ⟨RT, hRT⟩ : ∃ x, txtS R = x := ⟨_, rfl⟩
      obtain ⟨RE, hRE⟩ : ∃ x, errP R = x := ⟨_, rfl⟩
      obtain ⟨GT, hGT⟩ : ∃ x, txtS G = x := ⟨_, rfl⟩
      obtain ⟨GE, hGE⟩ : ∃ x, errP G = x := ⟨_, rfl⟩
      have HO : Hid (∀ W, PrsIn W p L → Calls Tryd.prog 28 #[.slice p L.length c] W fun e w' => ∃ u, e = .returned u ∧ w'.ownsRow W.heap.size 40 3 u L.length (prsC L) ∧ Below W.heap.size W w') := Lib.hid fun W h => own_any L (by omega) p c HPN.out W h
      have HJ1 : Hid (∀ p c W, PrsIn W p L → Calls Tryd.prog 29 #[.slice p L.length c] W fun e w' => e = .returned (.tuple #[.string ⟨RT.toArray⟩, .int .i64 (RE : Nat)]) ∧ Below W.heap.size W w') := Lib.hid fun p c W h => by
        have h := join_any L hLs hall p c W h
        rwa [hR, str_form, hRT, hRE] at h
      have HJ2 : Hid (∀ p c W, PrsIn W p L → Calls Tryd.prog 30 #[.slice p L.length c] W fun e w' => e = .returned (.tuple #[.string ⟨RT.toArray⟩, .int .i64 (RE : Nat)]) ∧ Below W.heap.size W w') := Lib.hid fun p c W h => by
        have h := refJoin_any L hLs hall p c W h
        rwa [hR, str_form, hRT, hRE] at h
      have HA1 : Hid (∀ W, Calls Tryd.prog 31 #[.string ⟨q.toArray⟩, .string ⟨m.toArray⟩] W fun e w' => e = .returned (.tuple #[.string ⟨GT.toArray⟩, .int .i64 (GE : Nat)]) ∧ Below W.heap.size W w') := Lib.hid fun W => by
        have h := append_any q m (by omega) (by omega) W
        rwa [hG, str_form, hGT, hGE] at h
      have HA2 : Hid (∀ W, Calls Tryd.prog 32 #[.string ⟨q.toArray⟩, .string ⟨m.toArray⟩] W fun e w' => e = .returned (.tuple #[.string ⟨GT.toArray⟩, .int .i64 (GE : Nat)]) ∧ W = w') := Lib.hid fun W => by
        have h := refAppend_any q m (by omega) (by omega) W
        rwa [hG, str_form, hGT, hGE] at h
      clear hall hsm hR hG hRT hRE hGT hGE
      go_wp2_with fail
      refine (HO.out _ HC.out).mono ?_
      rintro e w1 ⟨u, rfl, hrow, hB1⟩
      obtain ⟨p1, c1, rfl, -, hpr⟩ := prs_of_own hrow
      have A1 := Lib.hid hpr
      have hrow1 := Lib.hid hrow
      have C1 := Lib.hid (HC.out.below hB1 (Nat.le_refl _))
      clear hrow hpr
      go_wp2_with fail
      refine (HJ1.out _ _ _ A1.out).mono ?_
      rintro e w2 ⟨rfl, hb2⟩
      have hB2 := hB1.trans (hb2.mono hB1.size)
      have A2 := Lib.hid (prs_of_own (own_belowR hrow1.out hb2))
      have C2 := Lib.hid (C1.out.below hb2 (Nat.le_refl _))
      clear hB1 hb2
      go_wp2_with fail
      refine (HJ2.out _ _ _ C2.out).mono ?_
      rintro e w3 ⟨rfl, hb3⟩
      have hB3 := hB2.trans (hb3.mono hB2.size)
      have A3 := Lib.hid (A2.out.below hb3 (Nat.le_refl _))
      have C3 : Hid (PrsAt w3 (.slice p L.length c) L) := Lib.hid ⟨p, c, rfl, HPN.out, C2.out.below hb3 (Nat.le_refl _)⟩
      clear hB2 hb3
      go_wp2_with fail
      refine (same_any L (by omega) _ _ _ A3.out C3.out).mono ?_
      rintro e w4 ⟨rfl, hb4⟩
      have hB4 := hB3.trans (hb4.mono hB3.size)
      clear hB3 hb4
      go_wp2_with fail
      refine (HA1.out _).mono ?_
      rintro e w5 ⟨rfl, hb5⟩
      have hB5 := hB4.trans (hb5.mono hB4.size)
      clear hB4 hb5
      go_wp2_with fail
      refine (HA2.out _).mono ?_
      rintro e w' ⟨rfl, rfl⟩
      go_wp2_with fail
      refine (awake_any _).mono ?_
      rintro e w6 ⟨rfl, hb6⟩
      go_wp2_with fail
      go_ret
      exact ⟨rfl, hB5.trans (hb6.mono hB5.size)⟩
end Go.Proofs.YtbbphchhdppipaaDoor
