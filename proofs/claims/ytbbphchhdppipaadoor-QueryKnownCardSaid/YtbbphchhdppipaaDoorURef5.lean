/-
  The reference's Get, Join, Append and Canonical.
-/
import Derived.Test.YtbbphchhdppipaaDoorURef4
namespace Go.Proofs.YtbbphchhdppipaaDoor
open Go.RowKit
theorem getF_at {n : List UInt8} {L : List Pr} {k : Nat} (hk : k < L.length) : getF n (L.drop k) = if (L[k]).nm = n then .inr (L[k]).vl else getF n (L.drop (k + 1)) := by
  rw [List.drop_eq_getElem_cons hk, getF]
set_option maxRecDepth 100000 in
set_option maxHeartbeats 4000000 in
theorem refGet_any (q n : List UInt8) (hl : q.length < 100000) (w : World) :
    Calls Tryd.prog 25 #[.string ⟨q.toArray⟩, .string ⟨n.toArray⟩] w fun e w' => e = .returned (strR (getR q n)) ∧ Below w.heap.size w w' := by
  have HDC : Hid (∀ W, Calls Tryd.prog 23 #[.string ⟨q.toArray⟩] W fun e w' => PrsPost W.heap.size (decR q) e w' ∧ Below W.heap.size W w') := Lib.hid fun W => refDecoded_any q hl W
  cases hd : decR q with
  | inl m =>
    have HD := Lib.hid hd
    have HR : Hid (getR q n = .inl m) := Lib.hid (by unfold getR; rw [hd])
    have hm : m ≠ 0 := by
      unfold decR at hd
      split at hd
      · split at hd
        · cases hd
        · injection hd with hd; omega
      · injection hd with hd; omega
    have e0 : ((m : Int) != 0) = true := by rw [bne_iff_ne]; omega
    have e1 : ((m : Int) == 0) = false := by rw [beq_eq_false_iff_ne]; omega
    rw [HR.out]
    clear hd hm
    go_enter Tryd.func25, Tryd.ntmps25
    go_wp2_with fail
    refine (HDC.out _).mono ?_
    rintro e w' ⟨hpost, hb⟩
    rw [HD.out] at hpost
    obtain rfl := hpost
    go_wp2_with fail
    go_ret2
    exact ⟨rfl, hb⟩
  | inr L =>
    have HD := Lib.hid hd
    obtain ⟨R, hR⟩ : ∃ R, getF n L = R := ⟨_, rfl⟩
    have HR : Hid (getR q n = R) := Lib.hid (by unfold getR; rw [hd]; exact hR)
    have H0 : Hid (getF n (L.drop 0) = R) := Lib.hid hR
    have hsm := dec_small hd
    have hsz := hsm.1
    rw [HR.out]
    clear hd hR hsm
    go_enter Tryd.func25, Tryd.ntmps25
    go_wp2_with fail
    refine (HDC.out _).mono ?_
    rintro e w1 ⟨hpost, hb⟩
    rw [HD.out] at hpost
    obtain ⟨v, rfl, hrow⟩ := hpost
    obtain ⟨p, c, rfl, -, hpr⟩ := prs_of_own hrow
    have HP := Lib.hid hpr
    clear hrow hpr
    go_wp2_with fail
    go_loopw [8] (fun i wr => ∃ k : Nat, k ≤ L.length ∧ i = .int .i64 k ∧ Hid (getF n (L.drop k) = R) ∧ wr = w1) (fun i _ => L.length - (intOf i).toNat)
    case atStart => exact ⟨0, by omega, rfl, H0, rfl⟩
    case round =>
    obtain ⟨k, hk, rfl, hst, rfl⟩ := hrel
    by_cases hlt : k < L.length
    · have d1 : decide ((k : Int) < (L.length : Int)) = true := decide_eq_true (by omega)
      have hb2 : (k : Int) < (L.length : Int) := by omega
      obtain ⟨b, off, rfl, hbl, x0, x1, x2⟩ := pr_cells HP.out (Below.refl _ _) hlt
      have hat := getF_at (n := n) hlt
      obtain ⟨m, hm⟩ : ∃ m, (L[k]).nm = m := ⟨_, rfl⟩
      obtain ⟨u, hu⟩ : ∃ m, (L[k]).vl = m := ⟨_, rfl⟩
      rw [hm] at x0 hat
      rw [hu] at x1 hat
      by_cases hmn : m = n
      · have e0 : (m == n) = true := by simpa using hmn
        have hres : Hid (R = .inr u) := Lib.hid (by rw [← hst.out, hat, if_pos hmn])
        clear hat hm hu hst hmn
        go_wp2_with fail
        go_ret2
        exact ⟨by rw [hres.out]; rfl, hb⟩
      · have e0 : (m == n) = false := by simpa using hmn
        have hnext : Hid (getF n (L.drop (k + 1)) = R) := Lib.hid (by rw [← hst.out, hat, if_neg hmn])
        clear hat hm hu hst hmn
        go_wp2_with fail
        go_roundw
        case rel => exact ⟨k + 1, by omega, by go_num, hnext, trivial⟩
        case measure => simp [intOf]; omega
    · have d1 : decide ((k : Int) < (L.length : Int)) = false := decide_eq_false (by omega)
      have hres : Hid (R = .inl 6) := Lib.hid (by rw [← hst.out, List.drop_of_length_le (by omega)]; rfl)
      go_wp2_with fail
      go_ret2
      exact ⟨by rw [hres.out]; rfl, hb⟩
theorem join_bad {L : List Pr} {k : Nat} (hk : k < L.length) (h : badP L[k] = true) : joinR L = .inl 3 := by
  unfold joinR
  rw [if_pos (List.any_eq_true.2 ⟨L[k], List.getElem_mem hk, h⟩)]
theorem any_step {f : Pr → Bool} {L : List Pr} {k : Nat} (h : k < L.length) (h1 : (L.take k).any f = false) (h2 : f L[k] = false) : (L.take (k + 1)).any f = false := by
  rw [List.take_succ_eq_append_getElem h, List.any_append, h1]
  simp [h2]
theorem code_len (l : List UInt8) : (codeL l).length ≤ 3 * l.length := encL_length stayS l
theorem piece_len (p : Pr) : (pieceL p).length ≤ 3 * p.nm.length + 1 + 3 * p.vl.length := by
  have h1 := code_len p.nm
  have h2 := code_len p.vl
  unfold pieceL
  split
  · omega
  · rw [List.length_append, List.length_cons]
    omega
set_option maxRecDepth 100000 in
set_option maxHeartbeats 8000000 in
theorem refJoin_any (L : List Pr) (hn : L.length < 1000) (hs : ∀ p ∈ L, p.nm.length < 1000 ∧ p.vl.length < 1000) (p : Option Addr) (c : Nat) (w : World) (hC : PrsIn w p L) :
    Calls Tryd.prog 30 #[.slice p L.length c] w fun e w' => e = .returned (strR (joinR L)) ∧ Below w.heap.size w w' := by
  obtain ⟨R, hR⟩ : ∃ R, joinR L = R := ⟨_, rfl⟩
  have HR := Lib.hid hR
  have HC := Lib.hid hC
  have HS := Lib.hid hs
  rw [hR]
  clear hR hC hs
  go_enter Tryd.func30, Tryd.ntmps30
  go_wp2_with fail
  go_loopw [4, 5] (fun out i wr => ∃ (k : Nat) (O : List UInt8), k ≤ L.length ∧ i = .int .i64 k ∧ out = .string ⟨O.toArray⟩ ∧ O.length ≤ k * 7000 ∧ Hid (joinF O (k == 0) (L.drop k) = joinL L) ∧ Hid ((L.take k).any badP = false) ∧ Below w.heap.size w wr) (fun _ i _ => L.length - (intOf i).toNat)
  case atStart => exact ⟨0, [], by omega, rfl, rfl, by simp, Lib.hid rfl, Lib.hid rfl, Below.refl _ _⟩
  case round =>
  obtain ⟨k, O, hk, rfl, rfl, hO, hjo, hbd, hB⟩ := hrel
  by_cases hlt : k < L.length
  · have d1 : decide ((k : Int) < (L.length : Int)) = true := decide_eq_true (by omega)
    have hb2 : (k : Int) < (L.length : Int) := by omega
    obtain ⟨b, off, rfl, hbl, x0, x1, x2⟩ := pr_cells HC.out hB hlt
    have hsm := HS.out _ (List.getElem_mem hlt)
    have hjat := joinF_at (O := O) (f := (k == 0)) hlt
    have hbstep := fun h => any_step (f := badP) hlt hbd.out h
    have hbb := fun h => (join_bad (L := L) hlt h).symm.trans HR.out
    obtain ⟨P, hP⟩ : ∃ P, L[k] = P := ⟨_, rfl⟩
    rw [hP] at x0 x1 x2 hsm hjat hbstep hbb
    clear hP
    obtain ⟨nm, vl, br⟩ := P
    dsimp only at x0 x1 x2 hsm
    have p0 : CBlk 40 (wr.alloc (.cells #[.string ⟨nm.toArray⟩, .string ⟨vl.toArray⟩, .bool br] 40)) wr.heap.size [.string ⟨nm.toArray⟩, .string ⟨vl.toArray⟩, .bool br] := CBlk.new _ wr _
    have hBa := hB.alloc hB.size (.cells #[.string ⟨nm.toArray⟩, .string ⟨vl.toArray⟩, .bool br] 40)
    obtain ⟨o1, ho1⟩ : ∃ o1, (if (k == 0) = true then O else O ++ [38]) = o1 := ⟨_, rfl⟩
    rw [ho1] at hjat
    have ho1l : o1.length ≤ O.length + 1 := by
      rw [← ho1]
      split
      · omega
      · simp
    have s1 : 0 < k → ∀ w, (Op.stringOp .add ⟨O.toArray⟩ ⟨#[38]⟩).run Tryd.prog w = .ok (.string ⟨o1.toArray⟩) w := fun hk0 => str_add_to (b := [38]) (by rw [← ho1, if_neg (by simp; omega)]) (by simp; omega)
    have t1 : ¬ 0 < k → O = o1 := fun hk0 => by rw [← ho1, if_pos (by simp; omega)]
    have hcl := code_len nm
    have hcv := code_len vl
    have HE1 : Hid (∀ W, Calls Tryd.prog 14 #[.string ⟨nm.toArray⟩] W fun e w' => e = .returned (.string ⟨(codeL nm).toArray⟩) ∧ Below W.heap.size W w') := Lib.hid fun W => refCode_any nm (by omega) W
    have HE2 : Hid (∀ W, Calls Tryd.prog 14 #[.string ⟨vl.toArray⟩] W fun e w' => e = .returned (.string ⟨(codeL vl).toArray⟩) ∧ Below W.heap.size W w') := Lib.hid fun W => refCode_any vl (by omega) W
    have hpl : pieceL ⟨nm, vl, br⟩ = if br = true then codeL nm else codeL nm ++ 61 :: codeL vl := rfl
    rw [hpl] at hjat
    obtain ⟨C1, hC1⟩ : ∃ C1, codeL nm = C1 := ⟨_, rfl⟩
    obtain ⟨C2, hC2⟩ : ∃ C2, codeL vl = C2 := ⟨_, rfl⟩
    rw [hC1] at HE1 hcl hjat
    rw [hC2] at HE2 hcv hjat
    obtain ⟨o2, ho2⟩ : ∃ o2, o1 ++ C1 = o2 := ⟨_, rfl⟩
    obtain ⟨o3, ho3⟩ : ∃ o3, o2 ++ [61] = o3 := ⟨_, rfl⟩
    obtain ⟨o4, ho4⟩ : ∃ o4, o3 ++ C2 = o4 := ⟨_, rfl⟩
    have l2 : o2.length = o1.length + C1.length := by rw [← ho2, List.length_append]
    have l3 : o3.length = o2.length + 1 := by rw [← ho3, List.length_append]; rfl
    have l4 : o4.length = o3.length + C2.length := by rw [← ho4, List.length_append]
    have s2 : ∀ w, (Op.stringOp .add ⟨o1.toArray⟩ ⟨C1.toArray⟩).run Tryd.prog w = .ok (.string ⟨o2.toArray⟩) w := str_add_to ho2 (by omega)
    have s3 : ∀ w, (Op.stringOp .add ⟨o2.toArray⟩ ⟨#[61]⟩).run Tryd.prog w = .ok (.string ⟨o3.toArray⟩) w := str_add_to (b := [61]) ho3 (by simp; omega)
    have s4 : ∀ w, (Op.stringOp .add ⟨o3.toArray⟩ ⟨C2.toArray⟩).run Tryd.prog w = .ok (.string ⟨o4.toArray⟩) w := str_add_to ho4 (by omega)
    have hk1 : ((k + 1 : Nat) == 0) = false := by simp
    cases br with
    | false =>
      have hnext : Hid (joinF o4 (k + 1 == 0) (L.drop (k + 1)) = joinL L) := Lib.hid (by
        rw [hk1, ← hjo.out, hjat, if_neg (by simp), ← ho4, ← ho3, ← ho2]
        simp)
      have hbn := Lib.hid (hbstep rfl)
      have ho4l : o4.length ≤ (k + 1) * 7000 := by omega
      clear hjat hbstep hbb hpl ho1 ho2 ho3 ho4 hC1 hC2 l2 l3 l4 hcl hcv hk1 hsm hjo hbd
      by_cases hk0 : 0 < k
      · have d2 : decide (0 < (k : Int)) = true := decide_eq_true (by omega)
        have s1 := s1 hk0
        clear t1
        go_wp2_with fail
        refine (HE1.out _).mono ?_
        rintro e w2 ⟨rfl, hb2⟩
        have p2 := p0.below hb2 p0.lt
        have c0 := p2.cell 0 (by simp)
        have c1 := p2.cell 1 (by simp)
        have c2 := p2.cell 2 (by simp)
        have hB2 := hBa.trans (hb2.mono hBa.size)
        clear hb2
        go_wp2_with fail
        refine (HE2.out _).mono ?_
        rintro e w3 ⟨rfl, hb3⟩
        have hB3 := hB2.trans (hb3.mono hB2.size)
        clear hb3
        go_wp2_with fail
        go_roundw
        case rel => exact ⟨k + 1, o4, by omega, by go_num, rfl, ho4l, hnext, hbn, hB3⟩
        case measure => simp [intOf]; omega
      · have d2 : decide (0 < (k : Int)) = false := decide_eq_false (by omega)
        obtain rfl := t1 hk0
        clear s1
        go_wp2_with fail
        refine (HE1.out _).mono ?_
        rintro e w2 ⟨rfl, hb2⟩
        have p2 := p0.below hb2 p0.lt
        have c0 := p2.cell 0 (by simp)
        have c1 := p2.cell 1 (by simp)
        have c2 := p2.cell 2 (by simp)
        have hB2 := hBa.trans (hb2.mono hBa.size)
        clear hb2
        go_wp2_with fail
        refine (HE2.out _).mono ?_
        rintro e w3 ⟨rfl, hb3⟩
        have hB3 := hB2.trans (hb3.mono hB2.size)
        clear hb3
        go_wp2_with fail
        go_roundw
        case rel => exact ⟨k + 1, o4, by omega, by go_num, rfl, ho4l, hnext, hbn, hB3⟩
        case measure => simp [intOf]; omega
    | true =>
      cases nm with
      | nil =>
        have hres : Hid (R = .inl 3) := Lib.hid (hbb rfl).symm
        clear hjat hbstep hbb hpl ho1 ho2 ho3 ho4 hC1 hC2 l2 l3 l4 hcl hcv hk1 hsm hjo hbd s1 s2 s3 s4 t1 ho1l
        go_wp2_with fail
        go_ret2
        exact ⟨by rw [hres.out]; rfl, hBa⟩
      | cons c0 cr =>
        have e0 : (c0 :: cr).isEmpty = false := rfl
        cases vl with
        | cons v0 vr =>
          have e1 : (v0 :: vr).isEmpty = false := rfl
          have hres : Hid (R = .inl 3) := Lib.hid (hbb (by unfold badP; simp)).symm
          obtain ⟨N, hN⟩ : ∃ N, c0 :: cr = N := ⟨_, rfl⟩
          obtain ⟨V, hV⟩ : ∃ V, v0 :: vr = V := ⟨_, rfl⟩
          rw [hN] at x0 e0 p0 hBa
          rw [hV] at x1 e1 p0 hBa
          clear hjat hbstep hbb hpl ho1 ho2 ho3 ho4 hC1 hC2 l2 l3 l4 hcl hcv hk1 hsm hjo hbd s1 s2 s3 s4 t1 ho1l hN hV HE1 HE2
          go_wp2_with fail
          go_ret2
          exact ⟨by rw [hres.out]; rfl, hBa⟩
        | nil =>
          have hnext : Hid (joinF o2 (k + 1 == 0) (L.drop (k + 1)) = joinL L) := Lib.hid (by
            rw [hk1, ← hjo.out, hjat, if_pos rfl, ← ho2])
          have hbn := Lib.hid (hbstep rfl)
          have ho2l : o2.length ≤ (k + 1) * 7000 := by omega
          obtain ⟨N, hN⟩ : ∃ N, c0 :: cr = N := ⟨_, rfl⟩
          rw [hN] at x0 e0 p0 hBa HE1
          clear hjat hbstep hbb hpl ho1 ho2 ho3 ho4 hC1 hC2 l2 l3 l4 hcl hcv hk1 hsm hjo hbd s3 s4 hN HE2
          by_cases hk0 : 0 < k
          · have d2 : decide (0 < (k : Int)) = true := decide_eq_true (by omega)
            have s1 := s1 hk0
            clear t1
            go_wp2_with fail
            refine (HE1.out _).mono ?_
            rintro e w2 ⟨rfl, hb2⟩
            have p2 := p0.below hb2 p0.lt
            have c0 := p2.cell 0 (by simp)
            have c1 := p2.cell 1 (by simp)
            have c2 := p2.cell 2 (by simp)
            have hB2 := hBa.trans (hb2.mono hBa.size)
            clear hb2
            go_wp2_with fail
            go_roundw
            case rel => exact ⟨k + 1, o2, by omega, by go_num, rfl, ho2l, hnext, hbn, hB2⟩
            case measure => simp [intOf]; omega
          · have d2 : decide (0 < (k : Int)) = false := decide_eq_false (by omega)
            obtain rfl := t1 hk0
            clear s1
            go_wp2_with fail
            refine (HE1.out _).mono ?_
            rintro e w2 ⟨rfl, hb2⟩
            have p2 := p0.below hb2 p0.lt
            have c0 := p2.cell 0 (by simp)
            have c1 := p2.cell 1 (by simp)
            have c2 := p2.cell 2 (by simp)
            have hB2 := hBa.trans (hb2.mono hBa.size)
            clear hb2
            go_wp2_with fail
            go_roundw
            case rel => exact ⟨k + 1, o2, by omega, by go_num, rfl, ho2l, hnext, hbn, hB2⟩
            case measure => simp [intOf]; omega
  · have d1 : decide ((k : Int) < (L.length : Int)) = false := decide_eq_false (by omega)
    have hO2 : O = joinL L := by
      have := hjo.out
      rw [List.drop_of_length_le (by omega)] at this
      exact this
    have hany : L.any badP = false := by
      have := hbd.out
      rwa [List.take_of_length_le (by omega)] at this
    have hR := HR.out
    unfold joinR at hR
    rw [hany, ← hO2] at hR
    by_cases h1 : 128 < O.length
    · have d2 : decide ((128 : Int) < (O.length : Int)) = true := decide_eq_true (by omega)
      have hres : Hid (R = .inl 4) := Lib.hid (by rw [← hR, if_neg (by simp), if_pos h1])
      clear hR hO2 hany hjo hbd h1
      go_wp2_with fail
      go_ret2
      exact ⟨by rw [hres.out]; rfl, hB⟩
    · have d2 : decide ((128 : Int) < (O.length : Int)) = false := decide_eq_false (by omega)
      have hres : Hid (R = .inr O) := Lib.hid (by rw [← hR, if_neg (by simp), if_neg h1])
      clear hR hO2 hany hjo hbd h1
      go_wp2_with fail
      go_ret2
      exact ⟨by rw [hres.out]; rfl, hB⟩
set_option maxRecDepth 100000 in
set_option maxHeartbeats 4000000 in
theorem refAppend_any (q m : List UInt8) (hl : q.length < 100000) (hm : m.length < 100000) (w : World) :
    Calls Tryd.prog 32 #[.string ⟨q.toArray⟩, .string ⟨m.toArray⟩] w fun e w' => e = .returned (strR (appR q m)) ∧ w = w' := by
  have HCQ : Hid (∀ W, Calls Tryd.prog 16 #[.string ⟨q.toArray⟩] W fun e w' => e = .returned (.int .i64 (chkN q : Nat)) ∧ W = w') := Lib.hid fun W => refCheck_any q hl W
  have HCM : Hid (∀ W, Calls Tryd.prog 16 #[.string ⟨m.toArray⟩] W fun e w' => e = .returned (.int .i64 (chkN m : Nat)) ∧ W = w') := Lib.hid fun W => refCheck_any m hm W
  obtain ⟨R, hR⟩ : ∃ R, appR q m = R := ⟨_, rfl⟩
  rw [hR]
  unfold appR at hR
  obtain ⟨a, ha⟩ : ∃ a, chkN q = a := ⟨_, rfl⟩
  obtain ⟨b, hb⟩ : ∃ b, chkN m = b := ⟨_, rfl⟩
  have HQ := Lib.hid ha
  have HM := Lib.hid hb
  rw [ha, hb] at hR
  by_cases h0 : a = 0
  · subst h0
    rw [if_pos rfl] at hR
    by_cases h1 : b = 0
    · subst h1
      rw [if_pos rfl] at hR
      have hq1 := chk_len ha
      have hm1 := chk_len hb
      clear ha hb
      obtain ⟨eq, heq⟩ : ∃ x, q.isEmpty = x := ⟨_, rfl⟩
      obtain ⟨em, hem⟩ : ∃ x, m.isEmpty = x := ⟨_, rfl⟩
      by_cases he : q = [] ∨ m = []
      · rw [if_pos he] at hR
        obtain ⟨Z, hZ⟩ : ∃ Z, m ++ q = Z := ⟨_, rfl⟩
        rw [hZ] at hR
        have HR := Lib.hid hR
        have s1 : ∀ w, (Op.stringOp .add ⟨m.toArray⟩ ⟨q.toArray⟩).run Tryd.prog w = .ok (.string ⟨Z.toArray⟩) w := str_add_to hZ (by omega)
        have hor : (eq || em) = true := by
          rw [← heq, ← hem]
          rcases he with he | he <;> simp [he]
        clear hR hZ he
        cases eq with
        | true =>
          go_enter Tryd.func32, Tryd.ntmps32
          go_wp2_with fail
          refine (HCQ.out _).mono ?_
          rintro e w' ⟨rfl, rfl⟩
          rw [HQ.out]
          go_wp2_with fail
          refine (HCM.out _).mono ?_
          rintro e w' ⟨rfl, rfl⟩
          rw [HM.out]
          go_wp2_with fail
          go_ret2
          exact ⟨by rw [← HR.out]; rfl, rfl⟩
        | false =>
          cases em with
          | false => cases hor
          | true =>
            go_enter Tryd.func32, Tryd.ntmps32
            go_wp2_with fail
            refine (HCQ.out _).mono ?_
            rintro e w' ⟨rfl, rfl⟩
            rw [HQ.out]
            go_wp2_with fail
            refine (HCM.out _).mono ?_
            rintro e w' ⟨rfl, rfl⟩
            rw [HM.out]
            go_wp2_with fail
            go_ret2
            exact ⟨by rw [← HR.out]; rfl, rfl⟩
      · rw [if_neg he] at hR
        have hef : eq = false ∧ em = false := by
          rw [← heq, ← hem]
          refine ⟨?_, ?_⟩
          · cases q with
            | nil => exact absurd (.inl rfl) he
            | cons => rfl
          · cases m with
            | nil => exact absurd (.inr rfl) he
            | cons => rfl
        obtain ⟨rfl, rfl⟩ := hef
        obtain ⟨Y, hY⟩ : ∃ Y, m ++ [38] = Y := ⟨_, rfl⟩
        obtain ⟨Z, hZ⟩ : ∃ Z, Y ++ q = Z := ⟨_, rfl⟩
        have hYl : Y.length = m.length + 1 := by rw [← hY]; simp
        rw [show m ++ 38 :: q = Z by rw [← hZ, ← hY]; simp] at hR
        have s1 : ∀ w, (Op.stringOp .add ⟨m.toArray⟩ ⟨#[38]⟩).run Tryd.prog w = .ok (.string ⟨Y.toArray⟩) w := str_add_to (b := [38]) hY (by simp; omega)
        have s2 : ∀ w, (Op.stringOp .add ⟨Y.toArray⟩ ⟨q.toArray⟩).run Tryd.prog w = .ok (.string ⟨Z.toArray⟩) w := str_add_to hZ (by omega)
        have q1 : IntKind.i64.wrap ((q.length : Int) + (m.length : Int)) = ((q.length + m.length : Nat) : Int) := by rw [IntKind.wrap_i64]; omega
        have q2 : IntKind.i64.wrap (((q.length + m.length : Nat) : Int) + 1) = ((q.length + m.length + 1 : Nat) : Int) := by rw [IntKind.wrap_i64]; omega
        have q3 : IntKind.i64.wrap ((q.length : Int) + (m.length : Int) + 1) = ((q.length + m.length + 1 : Nat) : Int) := by rw [IntKind.wrap_i64]; omega
        clear he
        by_cases h2 : 128 < m.length + 1 + q.length
        · have d1 : decide ((128 : Int) < ((q.length + m.length + 1 : Nat) : Int)) = true := decide_eq_true (by omega)
          have d2 : decide ((128 : Int) < (q.length : Int) + (m.length : Int) + 1) = true := decide_eq_true (by omega)
          rw [if_pos h2] at hR
          have HR := Lib.hid hR
          clear hR hY hZ h2
          go_enter Tryd.func32, Tryd.ntmps32
          go_wp2_with fail
          refine (HCQ.out _).mono ?_
          rintro e w' ⟨rfl, rfl⟩
          rw [HQ.out]
          go_wp2_with fail
          refine (HCM.out _).mono ?_
          rintro e w' ⟨rfl, rfl⟩
          rw [HM.out]
          go_wp2_with fail
          go_ret2
          exact ⟨by rw [← HR.out]; rfl, rfl⟩
        · have d1 : decide ((128 : Int) < ((q.length + m.length + 1 : Nat) : Int)) = false := decide_eq_false (by omega)
          have d2 : decide ((128 : Int) < (q.length : Int) + (m.length : Int) + 1) = false := decide_eq_false (by omega)
          rw [if_neg h2] at hR
          have HR := Lib.hid hR
          clear hR hY hZ h2
          go_enter Tryd.func32, Tryd.ntmps32
          go_wp2_with fail
          refine (HCQ.out _).mono ?_
          rintro e w' ⟨rfl, rfl⟩
          rw [HQ.out]
          go_wp2_with fail
          refine (HCM.out _).mono ?_
          rintro e w' ⟨rfl, rfl⟩
          rw [HM.out]
          go_wp2_with fail
          go_ret2
          exact ⟨by rw [← HR.out]; rfl, rfl⟩
    · rw [if_neg h1] at hR
      have HR := Lib.hid hR
      have e0 : ((b : Int) != 0) = true := by rw [bne_iff_ne]; omega
      have e1 : ((b : Int) == 0) = false := by rw [beq_eq_false_iff_ne]; omega
      clear hR h1 ha hb
      go_enter Tryd.func32, Tryd.ntmps32
      go_wp2_with fail
      refine (HCQ.out _).mono ?_
      rintro e w' ⟨rfl, rfl⟩
      rw [HQ.out]
      go_wp2_with fail
      refine (HCM.out _).mono ?_
      rintro e w' ⟨rfl, rfl⟩
      rw [HM.out]
      go_wp2_with fail
      go_ret2
      exact ⟨by rw [← HR.out]; rfl, rfl⟩
  · rw [if_neg h0] at hR
    have HR := Lib.hid hR
    have e0 : ((a : Int) != 0) = true := by rw [bne_iff_ne]; omega
    have e1 : ((a : Int) == 0) = false := by rw [beq_eq_false_iff_ne]; omega
    clear hR h0 ha hb
    go_enter Tryd.func32, Tryd.ntmps32
    go_wp2_with fail
    refine (HCQ.out _).mono ?_
    rintro e w' ⟨rfl, rfl⟩
    rw [HQ.out]
    go_wp2_with fail
    go_ret2
    exact ⟨by rw [← HR.out]; rfl, rfl⟩
theorem dec_err {q : List UInt8} {m : Nat} (hd : decR q = .inl m) : m ≠ 0 := by
  unfold decR at hd
  split at hd
  · split at hd
    · cases hd
    · injection hd with hd; omega
  · injection hd with hd; omega
set_option maxRecDepth 100000 in
set_option maxHeartbeats 4000000 in
theorem refCan_any (q : List UInt8) (hl : q.length < 100000) (w : World) :
    Calls Tryd.prog 27 #[.string ⟨q.toArray⟩] w fun e w' => e = .returned (strR (canR q)) ∧ Below w.heap.size w w' := by
  have HDC : Hid (∀ W, Calls Tryd.prog 23 #[.string ⟨q.toArray⟩] W fun e w' => PrsPost W.heap.size (decR q) e w' ∧ Below W.heap.size W w') := Lib.hid fun W => refDecoded_any q hl W
  cases hd : decR q with
  | inl m =>
    have HD := Lib.hid hd
    have HR : Hid (canR q = .inl m) := Lib.hid (by unfold canR; rw [hd])
    have hm := dec_err hd
    have e0 : ((m : Int) != 0) = true := by rw [bne_iff_ne]; omega
    have e1 : ((m : Int) == 0) = false := by rw [beq_eq_false_iff_ne]; omega
    rw [HR.out]
    clear hd hm
    go_enter Tryd.func27, Tryd.ntmps27
    go_wp2_with fail
    refine (HDC.out _).mono ?_
    rintro e w' ⟨hpost, hb⟩
    rw [HD.out] at hpost
    obtain rfl := hpost
    go_wp2_with fail
    go_ret2
    exact ⟨rfl, hb⟩
  | inr L =>
    have HD := Lib.hid hd
    obtain ⟨R, hR⟩ : ∃ R, joinR L = R := ⟨_, rfl⟩
    have HR : Hid (canR q = R) := Lib.hid (by unfold canR; rw [hd]; exact hR)
    have hsm := dec_small hd
    have HJ : Hid (∀ p c W, PrsIn W p L → Calls Tryd.prog 30 #[.slice p L.length c] W fun e w' => e = .returned (strR R) ∧ Below W.heap.size W w') := Lib.hid fun p c W h => by
      have := refJoin_any L (by omega) (fun x hx => by have := hsm.2 x hx; omega) p c W h
      rwa [hR] at this
    rw [HR.out]
    clear hd hR hsm
    go_enter Tryd.func27, Tryd.ntmps27
    go_wp2_with fail
    refine (HDC.out _).mono ?_
    rintro e w1 ⟨hpost, hb⟩
    rw [HD.out] at hpost
    obtain ⟨v, rfl, hrow⟩ := hpost
    obtain ⟨p, c, rfl, -, hpr⟩ := prs_of_own hrow
    have HP := Lib.hid hpr
    clear hrow hpr
    go_wp2_with fail
    refine (HJ.out _ _ _ HP.out).mono ?_
    rintro e w2 ⟨rfl, hb2⟩
    have hB := hb.trans (hb2.mono hb.size)
    cases R with
    | inl m =>
      unfold strR
      go_wp2_with fail
      go_ret2
      exact ⟨rfl, hB⟩
    | inr t =>
      unfold strR
      go_wp2_with fail
      go_ret2
      exact ⟨rfl, hB⟩
end Go.Proofs.YtbbphchhdppipaaDoor
