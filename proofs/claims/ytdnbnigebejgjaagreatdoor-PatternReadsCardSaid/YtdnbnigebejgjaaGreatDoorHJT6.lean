/-
  pattern.Text for any nodes.
-/
import Derived.Test.YtdnbnigebejgjaaGreatDoorHJT5
namespace Go.Proofs.YtdnbnigebejgjaaGreatDoor
open Go.RowKit Go.Shelf
/-- The text of a tree. -/
def fullT (L : List ND) (bb en : Bool) : List UInt8 := (if bb = true then [94] else []) ++ ntT L L.length 0 ++ (if en = true then [36] else [])
/-- What Text says. -/
def txtR (L : List ND) (bb en : Bool) (g : Int) : List UInt8 × Int :=
  if chkR L g = 0 then (if 64 < (fullT L bb en).length then ([], 4) else (fullT L bb en, 0)) else ([], chkR L g)
set_option maxHeartbeats 4000000 in
set_option maxRecDepth 100000 in
theorem text_any (L : List ND) (hL : L.length < 100000) (v : Value) (bb en : Bool) (g : Int) (W : World) (h : NdsAt W v L) (hTS : TS W) :
    Calls Tryz.prog 11 #[.agg #[v, .bool bb, .bool en, .int .i64 g]] W fun e w' => e = .returned (.tuple #[.string ⟨(txtR L bb en g).1.toArray⟩, .int .i64 (txtR L bb en g).2]) ∧ Below W.heap.size W w' := by
  obtain ⟨W1, hW1⟩ : ∃ W1, W.alloc (.cells #[v, .bool bb, .bool en, .int .i64 g] 25) = W1 := ⟨_, rfl⟩
  have hB1 : Below W.heap.size W W1 := by rw [← hW1]; exact (Below.refl _ W).alloc (Nat.le_refl _) _
  have s1 : CBlk 25 W1 W.heap.size [v, .bool bb, .bool en, .int .i64 g] := by rw [← hW1]; exact CBlk.new _ W _
  have hz1 : W1.heap.size = W.heap.size + 1 := by rw [← hW1]; simp
  have HC := Lib.hid (check_any L (by omega) v bb en g W1 (h.below hB1 (Nat.le_refl _)))
  obtain ⟨t0, t1, t2, t3⟩ : W1.cell? ⟨W.heap.size, 0, none⟩ = _ ∧ W1.cell? ⟨W.heap.size, 1, none⟩ = _ ∧ W1.cell? ⟨W.heap.size, 2, none⟩ = _ ∧ W1.cell? ⟨W.heap.size, 3, none⟩ = _ := ⟨s1.cell 0 (by simp), s1.cell 1 (by simp), s1.cell 2 (by simp), s1.cell 3 (by simp)⟩
  obtain ⟨c, hc⟩ : ∃ c, chkR L g = c := ⟨_, rfl⟩
  rw [hc] at HC
  by_cases h0 : c = 0
  · subst h0
    obtain ⟨p, cap, rfl, hcap, hN⟩ := h
    obtain ⟨hl, ht, hn⟩ := chk_zero hc
    obtain ⟨f1, f2, f3⟩ := treeB_facts ht
    obtain ⟨b, off, rfl, hb⟩ := nds_place hN f1
    have hlen := nt_len L L.length 0 L.length L.length f3
    have HNT := Lib.hid fun n w h1 h2 h3 => nodeText_in L hL f3 b off cap L.length n 0 L.length L.length w f3 (by omega) h1 h2 h3
    obtain ⟨T, hT⟩ : ∃ T, ntT L L.length 0 = T := ⟨_, rfl⟩
    rw [hT] at hlen HNT
    have HR : Hid (txtR L bb en g = if 64 < ((if bb = true then [94] else []) ++ T ++ (if en = true then [36] else [])).length then ([], 4) else ((if bb = true then [94] else []) ++ T ++ (if en = true then [36] else []), 0)) := Lib.hid (by unfold txtR fullT; rw [if_pos hc, hT])
    have HNW := Lib.hid hN
    have HTS := Lib.hid hTS
    have HLEN : Hid (T.length ≤ 200000000) := Lib.hid (by omega)
    clear hc hN hl ht hn f1 f2 f3 hcap hT hlen hTS
    go_enter Tryz.func11, Tryz.ntmps11
    go_wp2_with fail
    refine HC.out.mono ?_
    rintro e w2 ⟨rfl, hB2⟩
    have s2 := s1.below hB2 s1.lt
    have hBW := hB1.trans (hB2.mono (by omega))
    have c0 := s2.cell 0 (by simp)
    clear s1 hB1 hB2 t0 t1 t2 t3 HC
    go_wp2_with fail
    refine (callsIn_wide.1 (HNT.out 0 w2 (CellsIn.below HNW.out hBW (Nat.le_refl _)) (by have := hBW.size; omega) (HTS.out.below hBW))).mono ?_
    rintro e w3 ⟨rfl, hB3⟩
    have s3 := s2.below hB3 s2.lt
    have hBV := hBW.trans (hB3.mono hBW.size)
    clear c0 s2 hBW hB3
    have c1 : w3.cell? ⟨W.heap.size, 1, none⟩ = some (.bool bb) := s3.cell 1 (by simp)
    have c2 : w3.cell? ⟨W.heap.size, 2, none⟩ = some (.bool en) := s3.cell 2 (by simp)
    obtain ⟨T1, hT1⟩ : ∃ T1, [94] ++ T = T1 := ⟨_, rfl⟩
    obtain ⟨T2, hT2⟩ : ∃ T2, T ++ [36] = T2 := ⟨_, rfl⟩
    obtain ⟨T3, hT3⟩ : ∃ T3, T1 ++ [36] = T3 := ⟨_, rfl⟩
    have l1 : T1.length ≤ 200000001 := by rw [← hT1, List.length_append]; have := HLEN.out; simp only [List.length_cons, List.length_nil]; omega
    have k1 : ∀ w : World, (Op.stringOp .add ⟨#[94]⟩ ⟨T.toArray⟩).run Tryz.prog w = .ok (.string ⟨T1.toArray⟩) w := fun w => hT1 ▸ jstr_add [94] T (by have := HLEN.out; simp only [List.length_cons, List.length_nil]; omega)
    have k2 : ∀ w : World, (Op.stringOp .add ⟨T.toArray⟩ ⟨#[36]⟩).run Tryz.prog w = .ok (.string ⟨T2.toArray⟩) w := fun w => hT2 ▸ jstr_add T [36] (by have := HLEN.out; simp only [List.length_cons, List.length_nil]; omega)
    have k3 : ∀ w : World, (Op.stringOp .add ⟨T1.toArray⟩ ⟨#[36]⟩).run Tryz.prog w = .ok (.string ⟨T3.toArray⟩) w := fun w => hT3 ▸ jstr_add T1 [36] (by simp only [List.length_cons, List.length_nil]; omega)
    have e1 : [] ++ T ++ [] = T := by simp
    have e2 : [] ++ T ++ [36] = T2 := by rw [← hT2]; simp
    have e3 : [94] ++ T ++ [] = T1 := by rw [← hT1]; simp
    have e4 : [94] ++ T ++ [36] = T3 := by rw [← hT3, ← hT1]
    clear hT1 hT2 hT3
    cases bb with
    | false =>
      cases en with
      | false =>
        rw [show ((if (false : Bool) = true then [94] else []) ++ T ++ (if (false : Bool) = true then [36] else []) : List UInt8) = T from e1] at HR
        clear e1 e2 e3 e4
        by_cases hl : 64 < T.length
        · have HRR : Hid (txtR L false false g = ([], 4)) := Lib.hid (HR.out.trans (if_pos hl))
          have a1 : decide ((64 : Int) < (T.length : Int)) = true := decide_eq_true (by omega)
          have a2 : decide (64 < T.length) = true := decide_eq_true hl
          clear hl
          go_wp2_with fail
          go_ret2
          exact ⟨by rw [HRR.out]; rfl, hBV⟩
        · have HRR : Hid (txtR L false false g = (T, 0)) := Lib.hid (HR.out.trans (if_neg hl))
          have a1 : decide ((64 : Int) < (T.length : Int)) = false := decide_eq_false (by omega)
          have a2 : decide (64 < T.length) = false := decide_eq_false hl
          clear hl
          go_wp2_with fail
          go_ret2
          exact ⟨by rw [HRR.out]; rfl, hBV⟩
      | true =>
        rw [show ((if (false : Bool) = true then [94] else []) ++ T ++ (if (true : Bool) = true then [36] else []) : List UInt8) = T2 from e2] at HR
        clear e1 e2 e3 e4
        by_cases hl : 64 < T2.length
        · have HRR : Hid (txtR L false true g = ([], 4)) := Lib.hid (HR.out.trans (if_pos hl))
          have a1 : decide ((64 : Int) < (T2.length : Int)) = true := decide_eq_true (by omega)
          have a2 : decide (64 < T2.length) = true := decide_eq_true hl
          clear hl
          go_wp2_with fail
          go_ret2
          exact ⟨by rw [HRR.out]; rfl, hBV⟩
        · have HRR : Hid (txtR L false true g = (T2, 0)) := Lib.hid (HR.out.trans (if_neg hl))
          have a1 : decide ((64 : Int) < (T2.length : Int)) = false := decide_eq_false (by omega)
          have a2 : decide (64 < T2.length) = false := decide_eq_false hl
          clear hl
          go_wp2_with fail
          go_ret2
          exact ⟨by rw [HRR.out]; rfl, hBV⟩
    | true =>
      cases en with
      | false =>
        rw [show ((if (true : Bool) = true then [94] else []) ++ T ++ (if (false : Bool) = true then [36] else []) : List UInt8) = T1 from e3] at HR
        clear e1 e2 e3 e4
        by_cases hl : 64 < T1.length
        · have HRR : Hid (txtR L true false g = ([], 4)) := Lib.hid (HR.out.trans (if_pos hl))
          have a1 : decide ((64 : Int) < (T1.length : Int)) = true := decide_eq_true (by omega)
          have a2 : decide (64 < T1.length) = true := decide_eq_true hl
          clear hl
          go_wp2_with fail
          go_ret2
          exact ⟨by rw [HRR.out]; rfl, hBV⟩
        · have HRR : Hid (txtR L true false g = (T1, 0)) := Lib.hid (HR.out.trans (if_neg hl))
          have a1 : decide ((64 : Int) < (T1.length : Int)) = false := decide_eq_false (by omega)
          have a2 : decide (64 < T1.length) = false := decide_eq_false hl
          clear hl
          go_wp2_with fail
          go_ret2
          exact ⟨by rw [HRR.out]; rfl, hBV⟩
      | true =>
        rw [show ((if (true : Bool) = true then [94] else []) ++ T ++ (if (true : Bool) = true then [36] else []) : List UInt8) = T3 from e4] at HR
        clear e1 e2 e3 e4
        by_cases hl : 64 < T3.length
        · have HRR : Hid (txtR L true true g = ([], 4)) := Lib.hid (HR.out.trans (if_pos hl))
          have a1 : decide ((64 : Int) < (T3.length : Int)) = true := decide_eq_true (by omega)
          have a2 : decide (64 < T3.length) = true := decide_eq_true hl
          clear hl
          go_wp2_with fail
          go_ret2
          exact ⟨by rw [HRR.out]; rfl, hBV⟩
        · have HRR : Hid (txtR L true true g = (T3, 0)) := Lib.hid (HR.out.trans (if_neg hl))
          have a1 : decide ((64 : Int) < (T3.length : Int)) = false := decide_eq_false (by omega)
          have a2 : decide (64 < T3.length) = false := decide_eq_false hl
          clear hl
          go_wp2_with fail
          go_ret2
          exact ⟨by rw [HRR.out]; rfl, hBV⟩
  · have HR : Hid (txtR L bb en g = ([], c)) := Lib.hid (by unfold txtR; rw [hc, if_neg h0])
    have a1 : (c == 0) = false := beq_eq_false_iff_ne.2 h0
    have a2 : (c != 0) = true := by simpa using h0
    clear h0 hc
    go_enter Tryz.func11, Tryz.ntmps11
    go_wp2_with fail
    refine HC.out.mono ?_
    rintro e w2 ⟨rfl, hB2⟩
    go_wp2
    go_ret2
    exact ⟨by rw [HR.out]; rfl, hB1.trans (hB2.mono (by omega))⟩
end Go.Proofs.YtdnbnigebejgjaaGreatDoor
