/-
  Parse by the program, for every line.
-/
import Derived.Test.YtnnldmgdojhejaaDoorQPRead
import Derived.Test.YtnnldmgdojhejaaDoorQPLong
namespace Go.Proofs.YtnnldmgdojhejaaDoor
open Go.RowKit
theorem rdM_le (l : List UInt8) : (rdM l).2.1 ≤ l.length := by
  unfold rdM
  have h1 := pre_le l
  have h2 := mtN_le2 [32] (l.drop (pre l))
  rw [List.length_drop] at h2
  split
  · exact Nat.zero_le _
  · dsimp only
    omega
theorem rdT_le (l : List UInt8) (k : Nat) (hk : k ≤ l.length) : (rdT l k).2.1 ≤ l.length := by
  unfold rdT
  split
  · rename_i h
    have h0 := mtN_le2 [47] (l.drop k)
    rw [h, List.length_drop] at h0
    have h1 := ldN_le (l.drop (k + 1))
    rw [List.length_drop] at h1
    have h2 := mtN_le2 [32] (l.drop (tEnd l k))
    rw [List.length_drop] at h2
    dsimp only
    unfold tEnd at h2 ⊢
    omega
  · exact hk
theorem ix3f (f g h : Fn) (p : Array Value) : (∀ w, (Instr.index 47 (.agg #[.func f p #[], .func g p #[], .func h p #[]]) (.int .i64 0)).run Tryd.prog w = .ok (.func f p #[]) w) ∧ (∀ w, (Instr.index 47 (.agg #[.func f p #[], .func g p #[], .func h p #[]]) (.int .i64 1)).run Tryd.prog w = .ok (.func g p #[]) w) ∧ (∀ w, (Instr.index 47 (.agg #[.func f p #[], .func g p #[], .func h p #[]]) (.int .i64 2)).run Tryd.prog w = .ok (.func h p #[]) w) := by
  refine ⟨fun w => ?_, fun w => ?_, fun w => ?_⟩
  · simp [Instr.index, run_underlying Tryd.underlying47, asIntOf, go_sem]
  · simp [Instr.index, run_underlying Tryd.underlying47, asIntOf, go_sem]
  · simp [Instr.index, run_underlying Tryd.underlying47, asIntOf, go_sem]
/-- What the program's Parse answers. -/
def prsP (l : List UInt8) : (List UInt8 × List UInt8) × Nat × Nat :=
  if (lngR l).1 ≠ 0 then (([], []), lngR l)
  else if (rdM l).1 = false then (([], []), 400, (rdM l).2.1)
  else if (rdT l (rdM l).2.1).1 = false then (([], []), 400, (rdT l (rdM l).2.1).2.1)
  else if (rdV l (rdT l (rdM l).2.1).2.1).1 = false then (([], []), 400, (rdV l (rdT l (rdM l).2.1).2.1).2)
  else (((rdM l).2.2, (rdT l (rdM l).2.1).2.2), 0, (rdV l (rdT l (rdM l).2.1).2.1).2)
set_option maxHeartbeats 4000000 in
theorem rparse0_any (l : List UInt8) (hl : l.length < 100000) (w : World) :
    Calls Tryd.prog 13 #[.string ⟨l.toArray⟩] w fun e w' => e = .returned (prsW (prsP l)) ∧ Below w.heap.size w w' := by
  have HL := Lib.hid fun W => rlong_any l hl W
  have HM := Lib.hid fun W B h => readMethod_any l (by omega) W B h
  have HT := Lib.hid fun k hk m W B h => readTarget_any l (by omega) k hk m W B h
  have HV := Lib.hid fun k hk m t W B h => readVersion_any l (by omega) k hk m t W B h
  have h1 := rdM_le l
  have h2 := rdT_le l _ h1
  obtain ⟨R, hR⟩ : ∃ R, prsP l = R := ⟨_, rfl⟩
  rw [hR]
  unfold prsP at hR
  obtain ⟨⟨st, at'⟩, hL⟩ : ∃ L, lngR l = L := ⟨_, rfl⟩
  rw [hL] at hR HL
  obtain ⟨⟨vm, k1, m⟩, hM⟩ : ∃ L, rdM l = L := ⟨_, rfl⟩
  rw [hM] at hR HM h1 h2
  dsimp only at hR HM h1 h2
  replace HT := Lib.hid (HT.out k1 h1 m)
  obtain ⟨⟨vt, k2, t⟩, hT⟩ : ∃ L, rdT l k1 = L := ⟨_, rfl⟩
  rw [hT] at hR HT h2
  dsimp only at hR HT h2
  replace HV := Lib.hid (HV.out k2 h2 m t)
  obtain ⟨⟨vv, k3⟩, hV⟩ : ∃ L, rdV l k2 = L := ⟨_, rfl⟩
  rw [hV] at hR HV
  dsimp only at hR HV
  have hR := Lib.hid hR
  clear hL hM hT hV h1 h2
  unfold lngW at HL
  dsimp only at HL
  go_enter Tryd.func13, Tryd.ntmps13
  go_upto_region 1 with fail
  have hA := CBlk.new 29 w [.string ⟨#[]⟩, .string ⟨#[]⟩]
  have hB : Below w.heap.size w (w.alloc (.cells #[.string ⟨#[]⟩, .string ⟨#[]⟩] 29)) := (Below.refl _ w).alloc (Nat.le_refl _) _
  obtain ⟨A, hAe⟩ : ∃ A, w.heap.size = A := ⟨_, rfl⟩
  obtain ⟨W0, hW0⟩ : ∃ W0, w.alloc (.cells #[.string ⟨#[]⟩, .string ⟨#[]⟩] 29) = W0 := ⟨_, rfl⟩
  have hB : Below w.heap.size w W0 := by rw [← hW0]; exact hB
  have hA : CBlk 29 W0 A [.string ⟨#[]⟩, .string ⟨#[]⟩] := by rw [← hW0, ← hAe]; exact hA
  have hz : w.heap.size ≤ A := by omega
  rw [hW0, hAe]
  rw [hAe] at hB hz
  clear hW0
  have HA := Lib.hid hAe
  clear hAe
  go_wp2_with fail
  refine (HL.out _).mono ?_
  rintro e w1 ⟨rfl, hb⟩
  have hB := hB.trans (hb.mono (Nat.le_of_lt hA.lt))
  have hA := hA.below hb hA.lt
  clear hb
  by_cases hs : st = 0
  · have e1 : ((st : Int) != 0) = false := by rw [bne_eq_false_iff_eq]; omega
    replace hR := Lib.hid (show (if vm = false then (([], []), 400, k1) else if vt = false then (([], []), 400, k2) else if vv = false then (([], []), 400, k3) else ((m, t), 0, k3)) = R from (if_neg (not_not_intro hs)).symm.trans hR.out)
    clear hs
    go_upto_region 5 with fail
    have hz1 := hA.lt
    have hb1 : RB (w1.alloc (.cells #[.string ⟨l.toArray⟩, .int .i64 0, .string ⟨#[]⟩, .string ⟨#[]⟩] 46)) w1.heap.size l 0 [] [] := CBlk.new _ w1 _
    have hA := hA.alloc (.cells #[.string ⟨l.toArray⟩, .int .i64 0, .string ⟨#[]⟩, .string ⟨#[]⟩] 46)
    have hB := hB.alloc (Nat.le_of_lt hz1) (.cells #[.string ⟨l.toArray⟩, .int .i64 0, .string ⟨#[]⟩, .string ⟨#[]⟩] 46)
    obtain ⟨W2, hW2⟩ : ∃ W2, w1.alloc (.cells #[.string ⟨l.toArray⟩, .int .i64 0, .string ⟨#[]⟩, .string ⟨#[]⟩] 46) = W2 := ⟨_, rfl⟩
    obtain ⟨B, hBe⟩ : ∃ B, w1.heap.size = B := ⟨_, rfl⟩
    rw [hBe] at hb1 hz1 ⊢
    rw [hW2] at hb1 hA hB ⊢
    clear hBe hW2
    go_wp2_with fail
    obtain ⟨x0, x1, x2⟩ := ix3f (.func 20) (.func 21) (.func 22) #[.pointer (some ⟨B, 0, none⟩)]
    refine wp_loop_rounds 4 ?_
    rw [rounds_succ]
    go_wp2_with fail
    refine (HM.out _ _ hb1).mono ?_
    rintro e w3 ⟨rfl, hb3, hbB⟩
    have hB := hB.trans (hbB.mono (Nat.le_of_lt hz1))
    have hA := hA.below hbB hz1
    clear hbB
    cases vm
    · skip
      have HR : Hid (R = (([], []), 400, k1)) := Lib.hid (by rw [← hR.out]; rfl)
      obtain ⟨q0, q1, q2, q3⟩ := hb3.cells
      obtain ⟨c0, c1⟩ := qcells2 hA
      have f0 := hA.free 0
      have f1 := hA.free 1
      go_wp2_with fail
      go_region
      all_goals
        go_wp2_with fail
        exact bodyPost_ret (rl_result (qstore2 hA.drew _ _) rfl _ _ _ rfl rfl rfl) rfl ⟨by rw [HR.out]; rfl, by rw [HA.out]; exact qbelow2 hB.drew (Nat.le_refl _) _ _⟩
    · go_wp2_with fail
      rw [rounds_succ]
      go_wp2_with fail
      refine (HT.out _ _ hb3).mono ?_
      rintro e w4 ⟨rfl, hb4, hbB⟩
      have hB := hB.trans (hbB.mono (Nat.le_of_lt hz1))
      have hA := hA.below hbB hz1
      clear hbB
      cases vt
      · skip
        have HR : Hid (R = (([], []), 400, k2)) := Lib.hid (by rw [← hR.out]; rfl)
        obtain ⟨q0, q1, q2, q3⟩ := hb4.cells
        obtain ⟨c0, c1⟩ := qcells2 hA
        have f0 := hA.free 0
        have f1 := hA.free 1
        go_wp2_with fail
        go_region
        all_goals
          go_wp2_with fail
          exact bodyPost_ret (rl_result (qstore2 hA.drew _ _) rfl _ _ _ rfl rfl rfl) rfl ⟨by rw [HR.out]; rfl, by rw [HA.out]; exact qbelow2 hB.drew (Nat.le_refl _) _ _⟩
      · go_wp2_with fail
        rw [rounds_succ]
        go_wp2_with fail
        refine (HV.out _ _ hb4).mono ?_
        rintro e w5 ⟨rfl, hb5, hbB⟩
        have hB := hB.trans (hbB.mono (Nat.le_of_lt hz1))
        have hA := hA.below hbB hz1
        clear hbB
        cases vv
        · skip
          have HR : Hid (R = (([], []), 400, k3)) := Lib.hid (by rw [← hR.out]; rfl)
          obtain ⟨q0, q1, q2, q3⟩ := hb5.cells
          obtain ⟨c0, c1⟩ := qcells2 hA
          have f0 := hA.free 0
          have f1 := hA.free 1
          go_wp2_with fail
          go_region
          all_goals
            go_wp2_with fail
            exact bodyPost_ret (rl_result (qstore2 hA.drew _ _) rfl _ _ _ rfl rfl rfl) rfl ⟨by rw [HR.out]; rfl, by rw [HA.out]; exact qbelow2 hB.drew (Nat.le_refl _) _ _⟩
        · skip
          go_wp2_with fail
          rw [rounds_succ]
          have HR : Hid (R = ((m, t), 0, k3)) := Lib.hid (by rw [← hR.out]; rfl)
          obtain ⟨q0, q1, q2, q3⟩ := hb5.cells
          obtain ⟨c0, c1⟩ := qcells2 hA
          have f0 := hA.free 0
          have f1 := hA.free 1
          go_wp2_with fail
          go_region
          all_goals
            go_wp2_with fail
            exact bodyPost_ret (rl_result (qstore2 hA.drew _ _) rfl _ _ _ rfl rfl rfl) rfl ⟨by rw [HR.out]; rfl, by rw [HA.out]; exact qbelow2 hB.drew (Nat.le_refl _) _ _⟩
  · have e1 : ((st : Int) != 0) = true := by rw [bne_iff_ne]; omega
    have HR : Hid (R = (([], []), (st, at'))) := Lib.hid (by rw [← hR.out, if_pos (by exact hs)])
    obtain ⟨c0, c1⟩ := qcells2 hA
    have f0 := hA.free 0
    have f1 := hA.free 1
    go_wp2_with fail
    exact bodyPost_ret (rl_result (qstore2 hA _ _) rfl _ _ _ rfl rfl rfl) rfl ⟨by rw [HR.out]; rfl, by rw [HA.out]; exact qbelow2 hB (Nat.le_refl _) _ _⟩
end Go.Proofs.YtnnldmgdojhejaaDoor
