/-
  The program's Get, Append and Canonical.
-/
import Derived.Test.YtbbphchhdppipaaDoorUProg10
namespace Go.Proofs.YtbbphchhdppipaaDoor
open Go.RowKit
def fndR : Option Pr → Nat ⊕ List UInt8
  | none => .inl 6
  | some p => .inr p.vl
theorem getF_find (n : List UInt8) : ∀ L : List Pr, getF n L = fndR (L.find? (fun p : Pr => p.nm == n))
  | [] => rfl
  | p :: r => by
    by_cases h : p.nm = n
    · rw [getF, if_pos h, find_yes (by simpa using h)]
      rfl
    · rw [getF, if_neg h, find_no (by simpa using h), getF_find n r]
set_option maxRecDepth 100000 in
set_option maxHeartbeats 4000000 in
theorem get_any (q n : List UInt8) (hl : q.length < 90000) (w : World) :
    Calls Tryd.prog 24 #[.string ⟨q.toArray⟩, .string ⟨n.toArray⟩] w fun e w' => e = .returned (strR (getR q n)) ∧ Below w.heap.size w w' := by
  have HDC : Hid (∀ W, Calls Tryd.prog 22 #[.string ⟨q.toArray⟩] W fun e w' => PrsPost W.heap.size (decR q) e w' ∧ Below W.heap.size W w') := Lib.hid fun W => decoded_any q hl W
  have n0 : CBlk 9 (w.alloc (.cells #[.string ⟨n.toArray⟩] 9)) w.heap.size [.string ⟨n.toArray⟩] := CBlk.new _ w _
  have hB0 := (Below.refl _ w).alloc (Nat.le_refl _) (.cells #[.string ⟨n.toArray⟩] 9)
  cases hd : decR q with
  | inl m =>
    have HD := Lib.hid hd
    have HR : Hid (getR q n = .inl m) := Lib.hid (by unfold getR; rw [hd])
    have hm := dec_err hd
    have e0 : ((m : Int) != 0) = true := by rw [bne_iff_ne]; omega
    have e1 : ((m : Int) == 0) = false := by rw [beq_eq_false_iff_ne]; omega
    rw [HR.out]
    clear hd hm
    go_enter Tryd.func24, Tryd.ntmps24
    go_wp2_with fail
    refine (HDC.out _).mono ?_
    rintro e w' ⟨hpost, hb⟩
    rw [HD.out] at hpost
    obtain rfl := hpost
    go_wp2_with fail
    go_ret2
    exact ⟨rfl, hB0.trans (hb.mono hB0.size)⟩
  | inr L =>
    have HD := Lib.hid hd
    have hsm := dec_small hd
    obtain ⟨F, hF⟩ : ∃ F, L.find? (fun p : Pr => p.nm == n) = F := ⟨_, rfl⟩
    have HF : Hid (∀ bn p c W, PrsIn W p L → CBlk 9 W bn [.string ⟨n.toArray⟩] → Calls Tryd.prog 54 #[.slice p L.length c, .func (.func 55) #[] #[.pointer (some ⟨bn, 0, none⟩)]] W fun e w' => e = .returned (fstV F) ∧ Below W.heap.size W w') := Lib.hid fun bn p c W h1 h2 => by
      have h := first_name n bn L (by omega) p c W h1 h2
      rwa [hF] at h
    have hget : getR q n = fndR F := by
      unfold getR
      rw [hd]
      show getF n L = _
      rw [getF_find, hF]
    have HG := Lib.hid hget
    clear hd hF hget hsm
    cases F with
    | none =>
      have HR : Hid (getR q n = .inl 6) := HG
      rw [HR.out]
      go_enter Tryd.func24, Tryd.ntmps24
      go_wp2_with fail
      refine (HDC.out _).mono ?_
      rintro e w1 ⟨hpost, hb⟩
      rw [HD.out] at hpost
      obtain ⟨v, rfl, hrow⟩ := hpost
      obtain ⟨p, c, rfl, -, hpr⟩ := prs_of_own hrow
      have HP := Lib.hid hpr
      have hB1 := hB0.trans (hb.mono hB0.size)
      have n1 := n0.below hb n0.lt
      clear hrow hpr hb
      go_wp2_with fail
      refine (HF.out _ _ _ _ HP.out n1).mono ?_
      rintro e w2 ⟨rfl, hb2⟩
      have hB2 := hB1.trans (hb2.mono hB1.size)
      have hB3 := hB2.alloc hB2.size (.cells #[.string ⟨#[]⟩, .string ⟨#[]⟩, .bool false] 40)
      unfold fstV
      dsimp only
      go_wp2_with fail
      go_ret2
      exact ⟨rfl, hB3⟩
    | some P =>
      obtain ⟨nm, vl, br⟩ := P
      have HR : Hid (getR q n = .inr vl) := HG
      rw [HR.out]
      go_enter Tryd.func24, Tryd.ntmps24
      go_wp2_with fail
      refine (HDC.out _).mono ?_
      rintro e w1 ⟨hpost, hb⟩
      rw [HD.out] at hpost
      obtain ⟨v, rfl, hrow⟩ := hpost
      obtain ⟨p, c, rfl, -, hpr⟩ := prs_of_own hrow
      have HP := Lib.hid hpr
      have hB1 := hB0.trans (hb.mono hB0.size)
      have n1 := n0.below hb n0.lt
      clear hrow hpr hb
      go_wp2_with fail
      refine (HF.out _ _ _ _ HP.out n1).mono ?_
      rintro e w2 ⟨rfl, hb2⟩
      have hB2 := hB1.trans (hb2.mono hB1.size)
      have hB3 := hB2.alloc hB2.size (.cells #[.string ⟨nm.toArray⟩, .string ⟨vl.toArray⟩, .bool br] 40)
      unfold fstV
      dsimp only
      go_wp2_with fail
      go_ret2
      exact ⟨rfl, hB3⟩
set_option maxRecDepth 100000 in
set_option maxHeartbeats 4000000 in
theorem append_any (q m : List UInt8) (hl : q.length < 90000) (hm : m.length < 90000) (w : World) :
    Calls Tryd.prog 31 #[.string ⟨q.toArray⟩, .string ⟨m.toArray⟩] w fun e w' => e = .returned (strR (appR q m)) ∧ Below w.heap.size w w' := by
  obtain ⟨R, hR⟩ : ∃ R, appR q m = R := ⟨_, rfl⟩
  rw [hR]
  unfold appR at hR
  have hq0 := fun h => chk_len (q := q) h
  have hm0 := fun h => chk_len (q := m) h
  obtain ⟨a, ha⟩ : ∃ a, chkN q = a := ⟨_, rfl⟩
  obtain ⟨b, hb⟩ : ∃ b, chkN m = b := ⟨_, rfl⟩
  have HCQ : Hid (∀ W, Calls Tryd.prog 15 #[.string ⟨q.toArray⟩] W fun e w' => e = .returned (.int .i64 (a : Nat)) ∧ Below W.heap.size W w') := Lib.hid fun W => by
    have h := check_q q (by omega) W
    rwa [ha] at h
  have HCM : Hid (∀ W, Calls Tryd.prog 15 #[.string ⟨m.toArray⟩] W fun e w' => e = .returned (.int .i64 (b : Nat)) ∧ Below W.heap.size W w') := Lib.hid fun W => by
    have h := check_q m (by omega) W
    rwa [hb] at h
  rw [ha, hb] at hR
  rw [ha] at hq0
  rw [hb] at hm0
  obtain ⟨z, hz⟩ : ∃ z : Int, (if (a : Int) = 0 then (b : Int) else (a : Int)) = z := ⟨_, rfl⟩
  have HOR : Hid (∀ (W : World) (B : Nat), W.heap.size = B → Calls Tryd.prog 53 #[.slice (some ⟨B, 0, none⟩) 2 2] (W.alloc (.cells #[.int .i64 (a : Int), .int .i64 (b : Int)] 28)) fun e w' => e = .returned (.int .i64 z) ∧ w' = W.alloc (.cells #[.int .i64 (a : Int), .int .i64 (b : Int)] 28)) := Lib.hid fun W B hB => by
    have h := or2_any a b W
    rw [hz, hB] at h
    exact h
  clear ha hb
  by_cases h0 : z = 0
  · have ha0 : a = 0 := by
      rw [← hz] at h0
      split at h0 <;> omega
    have hb0 : b = 0 := by
      rw [← hz, ha0] at h0
      simpa using h0
    have hq1 := hq0 ha0
    have hm1 := hm0 hb0
    rw [if_pos ha0, if_pos hb0] at hR
    have e0 : (z != 0) = false := by simpa using h0
    obtain ⟨eq, heq⟩ : ∃ x, q.isEmpty = x := ⟨_, rfl⟩
    obtain ⟨em, hem⟩ : ∃ x, m.isEmpty = x := ⟨_, rfl⟩
    have HCL : Hid (∀ (Z : List UInt8) W, Z.length ≤ 1000 → Calls Tryd.prog 50 #[.string ⟨Z.toArray⟩] W fun e w' => e = .returned (.string ⟨Z.toArray⟩) ∧ Below W.heap.size W w') := Lib.hid fun Z W h => clone_any _ W (by show Z.length ≤ _; omega)
    clear hz h0 ha0 hb0 hq0 hm0
    by_cases he : q = [] ∨ m = []
    · rw [if_pos he] at hR
      obtain ⟨Z, hZ⟩ : ∃ Z, m ++ q = Z := ⟨_, rfl⟩
      have hZl : Z.length ≤ 1000 := by rw [← hZ, List.length_append]; omega
      rw [hZ] at hR
      have HR := Lib.hid hR
      have s1 : ∀ w, (Op.stringOp .add ⟨m.toArray⟩ ⟨q.toArray⟩).run Tryd.prog w = .ok (.string ⟨Z.toArray⟩) w := str_add_to hZ (by omega)
      have hor : (eq || em) = true := by
        rw [← heq, ← hem]
        rcases he with he | he <;> simp [he]
      clear hR hZ he
      have hcs : (eq = true) ∨ (eq = false ∧ em = true) := by
        cases eq <;> simp at hor ⊢
        exact hor
      rcases hcs with rfl | ⟨rfl, rfl⟩
      all_goals
        go_enter Tryd.func31, Tryd.ntmps31
        go_wp2_with fail
        refine (HCQ.out _).mono ?_
        rintro e w1 ⟨rfl, hb1⟩
        go_wp2_with fail
        refine (HCM.out _).mono ?_
        rintro e w2 ⟨rfl, hb2⟩
        have hB2 := hb1.trans (hb2.mono hb1.size)
        go_wp2_with fail
        refine (HOR.out w2 _ rfl).mono ?_
        rintro e w' ⟨rfl, rfl⟩
        have hB3 := hB2.alloc hB2.size (.cells #[.int .i64 (a : Int), .int .i64 (b : Int)] 28)
        go_wp2_with fail
        refine (HCL.out Z _ hZl).mono ?_
        rintro e w4 ⟨rfl, hb4⟩
        have hB4 := hB3.trans (hb4.mono hB3.size)
        go_wp2_with fail
        go_ret2
        exact ⟨by rw [← HR.out]; rfl, hB4⟩
    · rw [if_neg he] at hR
      have hef : eq = false ∧ em = false := by
        rw [← heq, ← hem]
        refine ⟨?_, ?_⟩
        · cases q with
          | nil => exact absurd (.inl rfl) he
          | cons => rfl
        · cases m with
          | nil => exact absurd (.inr rfl) he
          | cons => rfl
      obtain ⟨rfl, rfl⟩ := hef
      obtain ⟨Y, hY⟩ : ∃ Y, m ++ [38] = Y := ⟨_, rfl⟩
      obtain ⟨Z, hZ⟩ : ∃ Z, Y ++ q = Z := ⟨_, rfl⟩
      have hYl : Y.length = m.length + 1 := by rw [← hY]; simp
      have hZl : Z.length = m.length + 1 + q.length := by rw [← hZ, List.length_append, hYl]
      rw [show m ++ 38 :: q = Z by rw [← hZ, ← hY]; simp, ← hZl] at hR
      have s1 : ∀ w, (Op.stringOp .add ⟨m.toArray⟩ ⟨#[38]⟩).run Tryd.prog w = .ok (.string ⟨Y.toArray⟩) w := str_add_to (b := [38]) hY (by simp; omega)
      have s2 : ∀ w, (Op.stringOp .add ⟨Y.toArray⟩ ⟨q.toArray⟩).run Tryd.prog w = .ok (.string ⟨Z.toArray⟩) w := str_add_to hZ (by omega)
      clear he hY hZ hYl hZl
      by_cases h2 : 128 < Z.length
      · have d1 : decide ((128 : Int) < (Z.length : Int)) = true := decide_eq_true (by omega)
        rw [if_pos h2] at hR
        have HR := Lib.hid hR
        clear hR h2
        go_enter Tryd.func31, Tryd.ntmps31
        go_wp2_with fail
        refine (HCQ.out _).mono ?_
        rintro e w1 ⟨rfl, hb1⟩
        go_wp2_with fail
        refine (HCM.out _).mono ?_
        rintro e w2 ⟨rfl, hb2⟩
        have hB2 := hb1.trans (hb2.mono hb1.size)
        go_wp2_with fail
        refine (HOR.out w2 _ rfl).mono ?_
        rintro e w' ⟨rfl, rfl⟩
        have hB3 := hB2.alloc hB2.size (.cells #[.int .i64 (a : Int), .int .i64 (b : Int)] 28)
        go_wp2_with fail
        go_ret2
        exact ⟨by rw [← HR.out]; rfl, hB3⟩
      · have d1 : decide ((128 : Int) < (Z.length : Int)) = false := decide_eq_false (by omega)
        rw [if_neg h2] at hR
        have HR := Lib.hid hR
        clear hR h2
        go_enter Tryd.func31, Tryd.ntmps31
        go_wp2_with fail
        refine (HCQ.out _).mono ?_
        rintro e w1 ⟨rfl, hb1⟩
        go_wp2_with fail
        refine (HCM.out _).mono ?_
        rintro e w2 ⟨rfl, hb2⟩
        have hB2 := hb1.trans (hb2.mono hb1.size)
        go_wp2_with fail
        refine (HOR.out w2 _ rfl).mono ?_
        rintro e w' ⟨rfl, rfl⟩
        have hB3 := hB2.alloc hB2.size (.cells #[.int .i64 (a : Int), .int .i64 (b : Int)] 28)
        go_wp2_with fail
        go_ret2
        exact ⟨by rw [← HR.out]; rfl, hB3⟩
  · have e0 : (z != 0) = true := by simpa using h0
    have HR : Hid (strR R = .tuple #[.string ⟨#[]⟩, .int .i64 z]) := Lib.hid (by
      rw [← hR, ← hz]
      by_cases ha0 : a = 0
      · have hb0 : b ≠ 0 := by
          intro h
          rw [← hz, ha0, h] at h0
          exact h0 rfl
        rw [if_pos ha0, if_neg hb0, ha0]
        rfl
      · rw [if_neg ha0, if_neg (by omega)]
        rfl)
    rw [HR.out]
    clear hR hz h0 hq0 hm0 HR
    go_enter Tryd.func31, Tryd.ntmps31
    go_wp2_with fail
    refine (HCQ.out _).mono ?_
    rintro e w1 ⟨rfl, hb1⟩
    go_wp2_with fail
    refine (HCM.out _).mono ?_
    rintro e w2 ⟨rfl, hb2⟩
    have hB2 := hb1.trans (hb2.mono hb1.size)
    go_wp2_with fail
    refine (HOR.out w2 _ rfl).mono ?_
    rintro e w' ⟨rfl, rfl⟩
    have hB3 := hB2.alloc hB2.size (.cells #[.int .i64 (a : Int), .int .i64 (b : Int)] 28)
    go_wp2_with fail
    go_ret2
    exact ⟨rfl, hB3⟩
set_option maxRecDepth 100000 in
set_option maxHeartbeats 4000000 in
theorem can_any (q : List UInt8) (hl : q.length < 90000) (w : World) :
    Calls Tryd.prog 26 #[.string ⟨q.toArray⟩] w fun e w' => e = .returned (strR (canR q)) ∧ Below w.heap.size w w' := by
  have HDC : Hid (∀ W, Calls Tryd.prog 22 #[.string ⟨q.toArray⟩] W fun e w' => PrsPost W.heap.size (decR q) e w' ∧ Below W.heap.size W w') := Lib.hid fun W => decoded_any q hl W
  cases hd : decR q with
  | inl m =>
    have HD := Lib.hid hd
    have HR : Hid (canR q = .inl m) := Lib.hid (by unfold canR; rw [hd])
    have hm := dec_err hd
    have e0 : ((m : Int) != 0) = true := by rw [bne_iff_ne]; omega
    have e1 : ((m : Int) == 0) = false := by rw [beq_eq_false_iff_ne]; omega
    rw [HR.out]
    clear hd hm
    go_enter Tryd.func26, Tryd.ntmps26
    go_wp2_with fail
    refine (HDC.out _).mono ?_
    rintro e w' ⟨hpost, hb⟩
    rw [HD.out] at hpost
    obtain rfl := hpost
    go_wp2_with fail
    go_ret2
    exact ⟨rfl, hb⟩
  | inr L =>
    have HD := Lib.hid hd
    obtain ⟨R, hR⟩ : ∃ R, joinR L = R := ⟨_, rfl⟩
    have HR : Hid (canR q = R) := Lib.hid (by unfold canR; rw [hd]; exact hR)
    have hsm := dec_small hd
    have HJ : Hid (∀ p c W, PrsIn W p L → Calls Tryd.prog 29 #[.slice p L.length c] W fun e w' => e = .returned (strR R) ∧ Below W.heap.size W w') := Lib.hid fun p c W h => by
      have := join_any L (by omega) (fun x hx => by have := hsm.2 x hx; omega) p c W h
      rwa [hR] at this
    rw [HR.out]
    clear hd hR hsm
    go_enter Tryd.func26, Tryd.ntmps26
    go_wp2_with fail
    refine (HDC.out _).mono ?_
    rintro e w1 ⟨hpost, hb⟩
    rw [HD.out] at hpost
    obtain ⟨v, rfl, hrow⟩ := hpost
    obtain ⟨p, c, rfl, -, hpr⟩ := prs_of_own hrow
    have HP := Lib.hid hpr
    clear hrow hpr
    go_wp2_with fail
    refine (HJ.out _ _ _ HP.out).mono ?_
    rintro e w2 ⟨rfl, hb2⟩
    have hB := hb.trans (hb2.mono hb.size)
    cases R with
    | inl m =>
      unfold strR
      go_wp2_with fail
      go_ret2
      exact ⟨rfl, hB⟩
    | inr t =>
      unfold strR
      go_wp2_with fail
      go_ret2
      exact ⟨rfl, hB⟩
end Go.Proofs.YtbbphchhdppipaaDoor
