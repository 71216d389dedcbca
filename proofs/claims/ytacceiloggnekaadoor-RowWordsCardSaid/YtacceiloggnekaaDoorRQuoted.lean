/-
  The reference's quoted for every text and place.
-/
import Derived.Test.YtacceiloggnekaaDoorRQuoF
import Derived.Laws.Entries
import Derived.OpenShut
namespace Go.Proofs.YtacceiloggnekaaDoor
open Go.RowKit
attribute [local go_sem] ba_get
/-- quoted's answer. -/
def quoP (l : List UInt8) (at0 : Nat) : List UInt8 × Nat := quoR [] 1 (quo (l.drop (at0 + 1)))
def quoV (l : List UInt8) (at0 : Nat) : Value := .tuple #[.string ⟨(quoP l at0).1.toArray⟩, .int .i64 ((quoP l at0).2 : Nat)]
theorem ba_cut1k (l : List UInt8) (i : Nat) (h : i + 1 < l.length) : (ByteArray.mk l.toArray).extract (i + 1) (i + 2) = ⟨#[l[i + 1]]⟩ := ba_cut1' l (i + 1) h
set_option maxHeartbeats 1500000 in
set_option maxRecDepth 100000 in
theorem refQuoted_any (l : List UInt8) (hl : l.length < 1000000) (at0 : Nat) (hat0 : at0 < l.length) (w : World) :
    Calls Tryd.prog 58 #[.string ⟨l.toArray⟩, .int .i64 (at0 : Int)] w fun e w' => e = .returned (quoV l at0) ∧ Below w.heap.size w w' := by
  obtain ⟨⟨RS, RN⟩, hR⟩ : ∃ R, quoP l at0 = R := ⟨_, rfl⟩
  have HR : Hid (quoV l at0 = .tuple #[.string ⟨RS.toArray⟩, .int .i64 (RN : Nat)]) := Lib.hid (by unfold quoV; rw [hR])
  have H0 := Lib.hid hR
  clear hR
  rw [HR.out]
  go_enter Tryd.func58, Tryd.ntmps58
  go_wp2_with fail
  go_loopw [6, 7] (fun o i wr => ∃ (k : Nat) (O : List UInt8), at0 + 1 ≤ k ∧ k ≤ l.length ∧ i = .int .i64 k ∧ o = .string ⟨O.toArray⟩ ∧ O.length ≤ k ∧ Hid (quoR O (k - at0) (quo (l.drop k)) = (RS, RN)) ∧ Below w.heap.size w wr) (fun _ i _ => l.length - (intOf i).toNat)
  case atStart => exact ⟨at0 + 1, [], Nat.le_refl _, hat0, by go_num, rfl, Nat.zero_le _, Lib.hid (by rw [show at0 + 1 - at0 = 1 by omega]; exact H0.out), Below.refl _ _⟩
  case round =>
    obtain ⟨k, O, hka, hk, rfl, rfl, hO, hp, hB⟩ := hrel
    by_cases hlt : k < l.length
    · have h1 : decide ((k : Int) < (l.length : Int)) = true := decide_eq_true (by omega)
      have hb2 : (k : Int) < (l.length : Int) := by omega
      have hne : l.drop k ≠ [] := by
        intro e
        have := congrArg List.length e
        simp at this
        omega
      have q1 : IntKind.i64.wrap ((k : Int) + 1) = ((k + 1 : Nat) : Int) := (IntWalk.i64_in _ (by omega)).trans (by omega)
      have q2 : IntKind.i64.wrap ((k : Int) + 2) = ((k + 2 : Nat) : Int) := (IntWalk.i64_in _ (by omega)).trans (by omega)
      have q3 : IntKind.i64.wrap ((k : Int) + 3) = ((k + 3 : Nat) : Int) := (IntWalk.i64_in _ (by omega)).trans (by omega)
      obtain ⟨x, hx⟩ : ∃ x, l[k] = x := ⟨_, rfl⟩
      obtain ⟨y, hy⟩ : ∃ y, x.toNat = y := ⟨_, rfl⟩
      have hyx : (l[k]).toNat = y := by rw [hx, hy]
      have HX := Lib.hid hyx
      have HY := Lib.hid hx
      by_cases h34 : y = 34
      · have a1 : ((y : Int) == 34) = true := by rw [beq_iff_eq]; omega
        have a01 : (y == 34) = true := by rw [beq_iff_eq]; omega
        have hres : Hid ((RS, RN) = (O, 1 + (k - at0))) := Lib.hid (by
          rw [← hp.out, quo_end (step_end hlt (by rw [HX.out, h34]))]
          show (O ++ [], _) = _
          rw [List.append_nil])
        obtain ⟨r1, r2⟩ := Prod.mk.inj hres.out
        subst r1
        have r3 : IntKind.i64.wrap (((k + 1 : Nat) : Int) - (at0 : Int)) = (RN : Int) := (IntWalk.i64_in _ (by omega)).trans (by omega)
        have r4 : IntKind.i64.wrap ((k : Int) + 1 - (at0 : Int)) = (RN : Int) := (IntWalk.i64_in _ (by omega)).trans (by omega)
        have r5 : (k : Int) + 1 - (at0 : Int) = (RN : Int) := by omega
        clear r2 hres h34 hyx
        go_wp2_with fail
        go_ret2
        exact ⟨by simp, hB⟩
      · have a1 : ((y : Int) == 34) = false := by rw [beq_eq_false_iff_ne]; omega
        have a01 : (y == 34) = false := by rw [beq_eq_false_iff_ne]; omega
        by_cases hbad : y < 32 ∨ 126 < y
        · have hres : Hid ((RS, RN) = (([] : List UInt8), 0)) := Lib.hid (by rw [← hp.out, quo_bad (step_bad hlt (by rw [HX.out]; exact h34) (by rw [HX.out]; exact hbad))]; rfl)
          obtain ⟨r1, r2⟩ := Prod.mk.inj hres.out
          subst r1 r2
          rcases hbad with hbad | hbad
          · have d1 : decide ((y : Int) < 32) = true := decide_eq_true (by omega)
            have d2 : decide (y < 32) = true := decide_eq_true (by omega)
            clear hyx h34 hres
            go_wp2_with fail
            go_ret2
            exact ⟨by simp, hB⟩
          · have d1 : decide ((y : Int) < 32) = false := decide_eq_false (by omega)
            have d2 : decide (y < 32) = false := decide_eq_false (by omega)
            have d3 : decide ((126 : Int) < (y : Int)) = true := decide_eq_true (by omega)
            have d4 : decide (126 < y) = true := decide_eq_true (by omega)
            clear hyx h34 hres
            go_wp2_with fail
            go_ret2
            exact ⟨by simp, hB⟩
        · have d1 : decide ((y : Int) < 32) = false := decide_eq_false (by omega)
          have d2 : decide (y < 32) = false := decide_eq_false (by omega)
          have d3 : decide ((126 : Int) < (y : Int)) = false := decide_eq_false (by omega)
          have d4 : decide (126 < y) = false := decide_eq_false (by omega)
          by_cases h92 : y = 92
          · have a2 : ((y : Int) != 92) = false := by rw [h92]; rfl
            have a3 : ((y : Int) == 92) = true := by rw [beq_iff_eq]; omega
            have a02 : (y == 92) = true := by rw [beq_iff_eq]; omega
            clear hyx h34 hbad
            have HC : Hid ((l[k]).toNat = 92) := Lib.hid (by rw [HX.out, h92])
            clear h92
            by_cases hk1 : k + 1 < l.length
            · have b1 : ((k + 1 : Nat) : Int) < (l.length : Int) := by omega
              have b3 : (k : Int) + 1 < (l.length : Int) := by omega
              have b5 : 0 ≤ (k : Int) + 1 := by omega
              have b8 : ((k : Int) + 1).toNat = k + 1 := by omega
              have c1 : decide (((k + 1 : Nat) : Int) < (l.length : Int)) = true := decide_eq_true b1
              have c2 : decide ((k : Int) + 1 < (l.length : Int)) = true := decide_eq_true b3
              obtain ⟨x1, hx1⟩ : ∃ x, l[k + 1] = x := ⟨_, rfl⟩
              obtain ⟨y1, hy1⟩ : ∃ y, x1.toNat = y := ⟨_, rfl⟩
              have HX1 : Hid ((l[k + 1]).toNat = y1) := Lib.hid (by rw [hx1, hy1])
              have l1 : y1 < 256 := by rw [← hy1]; exact UInt8.toNat_lt _
              by_cases hesc : y1 = 34 ∨ y1 = 92
              · have hnext : Hid (quoR (O ++ [x1]) (k + 2 - at0) (quo (l.drop (k + 2))) = (RS, RN)) := Lib.hid (by
                  rw [← hp.out, quo_more (m := 1) hne (step_esc hk1 HC.out (by rw [HX1.out]; exact hesc)), quoR_more, List.drop_drop, hx1, show k - at0 + (1 + 1) = k + 2 - at0 by omega])
                have g1 := ba_cut1k l k hk1
                rw [hx1] at g1
                have n1 : ((k : Int) + 2).toNat = k + 2 := by omega
                have n2 : (k : Int) + 2 ≤ (l.length : Int) := by omega
                have n3 : 0 ≤ (k : Int) + 2 := by omega
                have n4 : (k : Int) + 1 ≤ (k : Int) + 2 := by omega
                have s1 : ∀ w, (Op.stringOp .add ⟨O.toArray⟩ ⟨#[x1]⟩).run Tryd.prog w = .ok (.string ⟨(O ++ [x1]).toArray⟩) w := fun w => str_add O [x1] (by unfold Small; simp; omega)
                rcases hesc with hesc | hesc
                · have e1 : ((y1 : Int) == 34) = true := by rw [beq_iff_eq]; omega
                  have e01 : (y1 == 34) = true := by rw [beq_iff_eq]; omega
                  clear hesc
                  go_wp2_with fail
                  go_roundw
                  case rel => exact ⟨k + 2, O ++ [x1], by omega, by omega, by go_num, rfl, by simp; omega, hnext, hB⟩
                  case measure => simp [intOf]; omega
                · have e1 : ((y1 : Int) == 34) = false := by rw [beq_eq_false_iff_ne]; omega
                  have e01 : (y1 == 34) = false := by rw [beq_eq_false_iff_ne]; omega
                  have e2 : ((y1 : Int) == 92) = true := by rw [beq_iff_eq]; omega
                  have e02 : (y1 == 92) = true := by rw [beq_iff_eq]; omega
                  clear hesc
                  go_wp2_with fail
                  go_roundw
                  case rel => exact ⟨k + 2, O ++ [x1], by omega, by omega, by go_num, rfl, by simp; omega, hnext, hB⟩
                  case measure => simp [intOf]; omega
              · have e1 : ((y1 : Int) == 34) = false := by rw [beq_eq_false_iff_ne]; omega
                have e01 : (y1 == 34) = false := by rw [beq_eq_false_iff_ne]; omega
                have e2 : ((y1 : Int) == 92) = false := by rw [beq_eq_false_iff_ne]; omega
                have e02 : (y1 == 92) = false := by rw [beq_eq_false_iff_ne]; omega
                have HE2 : Hid (¬ ((l[k + 1]).toNat = 34 ∨ (l[k + 1]).toNat = 92)) := Lib.hid (by rw [HX1.out]; exact hesc)
                clear hesc
                by_cases hk3 : k + 3 < l.length
                · have c3 : decide (((k + 3 : Nat) : Int) < (l.length : Int)) = true := decide_eq_true (by omega)
                  have c4 : decide ((k : Int) + 3 < (l.length : Int)) = true := decide_eq_true (by omega)
                  have m2 : ((k : Int) + 2).toNat = k + 2 := by omega
                  have m3 : ((k : Int) + 3).toNat = k + 3 := by omega
                  have p2 : ((k + 2 : Nat) : Int) < (l.length : Int) := by omega
                  have p3 : ((k + 3 : Nat) : Int) < (l.length : Int) := by omega
                  have p4 : (k : Int) + 2 < (l.length : Int) := by omega
                  have p5 : (k : Int) + 3 < (l.length : Int) := by omega
                  have p6 : 0 ≤ (k : Int) + 2 := by omega
                  have p7 : 0 ≤ (k : Int) + 3 := by omega
                  by_cases h120 : y1 = 120
                  · have e3 : ((y1 : Int) == 120) = true := by rw [beq_iff_eq]; omega
                    have e03 : (y1 == 120) = true := by rw [beq_iff_eq]; omega
                    have H120 := Lib.hid h120
                    clear h120
                    obtain ⟨x2, hx2⟩ : ∃ x, l[k + 2] = x := ⟨_, rfl⟩
                    obtain ⟨y2, hy2⟩ : ∃ y, x2.toNat = y := ⟨_, rfl⟩
                    have l2 : y2 < 256 := by rw [← hy2]; exact UInt8.toNat_lt _
                    have HX2 : Hid (hexB l[k + 2] = valH y2) := Lib.hid (by unfold hexB; rw [hx2, hy2])
                    obtain ⟨x3, hx3⟩ : ∃ x, l[k + 3] = x := ⟨_, rfl⟩
                    obtain ⟨y3, hy3⟩ : ∃ y, x3.toNat = y := ⟨_, rfl⟩
                    have l3 : y3 < 256 := by rw [← hy3]; exact UInt8.toNat_lt _
                    have HX3 : Hid (hexB l[k + 3] = valH y3) := Lib.hid (by unfold hexB; rw [hx3, hy3])
                    have r2 := valH_lt y2
                    have r3 := valH_lt y3
                    obtain ⟨v2, hv2⟩ : ∃ v, valH y2 = v := ⟨_, rfl⟩
                    obtain ⟨v3, hv3⟩ : ∃ v, valH y3 = v := ⟨_, rfl⟩
                    rw [hv2] at r2
                    rw [hv3] at r3
                    have V2 := Lib.hid hv2
                    have V3 := Lib.hid hv3
                    clear hv2 hv3
                    by_cases n2 : 0 ≤ v2
                    · have f2 : decide ((0 : Int) ≤ v2) = true := decide_eq_true n2
                      by_cases n3 : 0 ≤ v3
                      · have f3 : decide ((0 : Int) ≤ v3) = true := decide_eq_true n3
                        obtain ⟨z, hz⟩ : ∃ z : Nat, 16 * v2.toNat + v3.toNat = z := ⟨_, rfl⟩
                        have hz2 : 16 * v2 + v3 = (z : Int) := by omega
                        have hz3 : z < 256 := by omega
                        have t1 : IntKind.i64.wrap (16 * v2) = 16 * v2 := IntWalk.i64_in _ (by omega)
                        have t2 : IntKind.i64.wrap (z : Int) = (z : Int) := IntWalk.i64_in _ (by omega)
                        have t3 : IntKind.u8.wrap (z : Int) = (z : Int) := wrap8 hz3
                        obtain ⟨X, hX⟩ : ∃ X, UInt8.ofNat z = X := ⟨_, rfl⟩
                        have hnext : Hid (quoR (O ++ [X]) (k + 4 - at0) (quo (l.drop (k + 4))) = (RS, RN)) := Lib.hid ((next_hex hk3 HC.out HE2.out (HX1.out.trans H120.out) (HX2.out.trans V2.out) (HX3.out.trans V3.out) n2 n3 hz hX hka).symm.trans hp.out)
                        have s1 : ∀ w, (Op.stringOp .add ⟨O.toArray⟩ ⟨#[X]⟩).run Tryd.prog w = .ok (.string ⟨(O ++ [X]).toArray⟩) w := fun w => str_add O [X] (by unfold Small; simp; omega)
                        have q4 : IntKind.i64.wrap ((k : Int) + 4) = ((k + 4 : Nat) : Int) := (IntWalk.i64_in _ (by omega)).trans (by omega)
                        have hcv : (convert 65 9 (.slice (some ⟨wr.heap.size, 0, none⟩) 1 1)).run Tryd.prog (wr.alloc (.cells #[.int .u8 (z : Int)] 5)).drew = .ok (.string ⟨#[X]⟩) (wr.alloc (.cells #[.int .u8 (z : Int)] 5)).drew := by
                          have hs : strOfNums ([z].map fun x : Nat => (x : Int)) = ⟨#[X]⟩ := by rw [← hX]; simp [strOfNums]
                          rw [← hs]
                          refine run_convert_bytes_arg _ 65 5 Tryd.underlying65 Tryd.underlying5 wr.heap.size 0 1 1 ([z].map fun x : Nat => (x : Int)) (by simp) (fun i hi => ?_) 9 Tryd.underlying9
                          obtain rfl : i = 0 := by simpa using hi
                          go_cell
                        go_upto_region 17 with fail
                        refine (value_any y2 l2 _).mono ?_
                        rintro e w' ⟨rfl, rfl⟩
                        rw [V2.out]
                        go_upto_region 17 with fail
                        refine (value_any y3 l3 _).mono ?_
                        rintro e w' ⟨rfl, rfl⟩
                        rw [V3.out]
                        go_upto_region 17 with fail
                        refine wp_region_noPanic ?_
                        refine wp_region_held_drew (S := fun _ => True) (by kernel_rfl) ?_ (fun hHeld => ?_)
                        focus ((try dsimp only); all_goals trivial)
                        try simp only [Act.put, List.setIfInBounds_toArray, List.set_cons_zero, List.set_cons_succ]
                        refine wpAnyH_take (i := 0) (oi := { dst := some 104, op := Go.Op.move (Go.Operand.tmp 6), type := 9, pos := "ref.go:55", after := #[], guard := none }) (v := ?_) rfl (by kernel_rfl) (by kernel_rfl) (by kernel_rfl) (fun _ _ _ h => h) (Or.inl ⟨by rfl, ?_⟩) (by assumption) ?_
                        rotate_left
                        focus ((intro w hSw; (try dsimp only at hSw); go_simp) <;> (with_reducible rfl))
                        try simp only [Act.put, List.setIfInBounds_toArray, List.set_cons_zero, List.set_cons_succ]
                        refine wpAnyH_take (i := 1) (oi := { dst := some 105, op := Go.Op.move (Go.Operand.tmp 0), type := 9, pos := "ref.go:55", after := #[], guard := none }) (v := ?_) rfl (by kernel_rfl) (by kernel_rfl) (by kernel_rfl) (fun _ _ _ h => h) (Or.inl ⟨by rfl, ?_⟩) (by assumption) ?_
                        rotate_left
                        focus ((intro w hSw; (try dsimp only at hSw); go_simp) <;> (with_reducible rfl))
                        try simp only [Act.put, List.setIfInBounds_toArray, List.set_cons_zero, List.set_cons_succ]
                        refine wpAnyH_take (i := 2) (oi := { dst := some 106, op := Go.Op.move (Go.Operand.tmp 7), type := 3, pos := "ref.go:55", after := #[], guard := none }) (v := ?_) rfl (by kernel_rfl) (by kernel_rfl) (by kernel_rfl) (fun _ _ _ h => h) (Or.inl ⟨by rfl, ?_⟩) (by assumption) ?_
                        rotate_left
                        focus ((intro w hSw; (try dsimp only at hSw); go_simp) <;> (with_reducible rfl))
                        try simp only [Act.put, List.setIfInBounds_toArray, List.set_cons_zero, List.set_cons_succ]
                        refine wpAnyH_take (i := 3) (oi := { dst := some 107, op := Go.Op.binOp Go.BinOp.add 3 (Go.Operand.tmp 106) (Go.Operand.const (Go.Value.int Go.IntKind.i64 2)) 3, type := 3, pos := "ref.go:55", after := #[{ on := 2, ground := Go.Ground.data }], guard := none }) (v := ?_) rfl (by kernel_rfl) (by kernel_rfl) (by kernel_rfl) (fun _ _ _ h => h) (Or.inl ⟨by rfl, ?_⟩) (by assumption) ?_
                        rotate_left
                        focus ((intro w hSw; (try dsimp only at hSw); go_simp) <;> (with_reducible rfl))
                        try simp only [Act.put, List.setIfInBounds_toArray, List.set_cons_zero, List.set_cons_succ]
                        refine wpAnyH_take (i := 4) (oi := { dst := some 108, op := Go.Op.index 9 (Go.Operand.tmp 105) (Go.Operand.tmp 107), type := 5, pos := "ref.go:55", after := #[{ on := 1, ground := Go.Ground.data }, { on := 3, ground := Go.Ground.data }], guard := none }) (v := ?_) rfl (by kernel_rfl) (by kernel_rfl) (by kernel_rfl) (fun _ _ _ h => h) (Or.inl ⟨by rfl, ?_⟩) (by assumption) ?_
                        rotate_left
                        focus ((intro w hSw; (try dsimp only at hSw); go_simp) <;> (with_reducible rfl))
                        try simp only [Act.put, List.setIfInBounds_toArray, List.set_cons_zero, List.set_cons_succ]
                        refine wpAnyH_take (i := 7) (oi := { dst := some 111, op := Go.Op.move (Go.Operand.tmp 0), type := 9, pos := "ref.go:55", after := #[], guard := none }) (v := ?_) rfl (by kernel_rfl) (by kernel_rfl) (by kernel_rfl) (fun _ _ _ h => h) (Or.inl ⟨by rfl, ?_⟩) (by assumption) ?_
                        rotate_left
                        focus ((intro w hSw; (try dsimp only at hSw); go_simp) <;> (with_reducible rfl))
                        try simp only [Act.put, List.setIfInBounds_toArray, List.set_cons_zero, List.set_cons_succ]
                        refine wpAnyH_take (i := 8) (oi := { dst := some 112, op := Go.Op.move (Go.Operand.tmp 7), type := 3, pos := "ref.go:55", after := #[], guard := none }) (v := ?_) rfl (by kernel_rfl) (by kernel_rfl) (by kernel_rfl) (fun _ _ _ h => h) (Or.inl ⟨by rfl, ?_⟩) (by assumption) ?_
                        rotate_left
                        focus ((intro w hSw; (try dsimp only at hSw); go_simp) <;> (with_reducible rfl))
                        try simp only [Act.put, List.setIfInBounds_toArray, List.set_cons_zero, List.set_cons_succ]
                        refine wpAnyH_take (i := 9) (oi := { dst := some 113, op := Go.Op.binOp Go.BinOp.add 3 (Go.Operand.tmp 112) (Go.Operand.const (Go.Value.int Go.IntKind.i64 3)) 3, type := 3, pos := "ref.go:55", after := #[{ on := 8, ground := Go.Ground.data }], guard := none }) (v := ?_) rfl (by kernel_rfl) (by kernel_rfl) (by kernel_rfl) (fun _ _ _ h => h) (Or.inl ⟨by rfl, ?_⟩) (by assumption) ?_
                        rotate_left
                        focus ((intro w hSw; (try dsimp only at hSw); go_simp) <;> (with_reducible rfl))
                        try simp only [Act.put, List.setIfInBounds_toArray, List.set_cons_zero, List.set_cons_succ]
                        refine wpAnyH_take (i := 10) (oi := { dst := some 114, op := Go.Op.index 9 (Go.Operand.tmp 111) (Go.Operand.tmp 113), type := 5, pos := "ref.go:55", after := #[{ on := 7, ground := Go.Ground.data }, { on := 9, ground := Go.Ground.data }], guard := none }) (v := ?_) rfl (by kernel_rfl) (by kernel_rfl) (by kernel_rfl) (fun _ _ _ h => h) (Or.inl ⟨by rfl, ?_⟩) (by assumption) ?_
                        rotate_left
                        focus ((intro w hSw; (try dsimp only at hSw); go_simp) <;> (with_reducible rfl))
                        try simp only [Act.put, List.setIfInBounds_toArray, List.set_cons_zero, List.set_cons_succ]
                        refine wpAnyH_ready (rs := [5]) (by kernel_rfl) (by simp) ?_
                        refine AllReadyH.cons (o := { dst := some 109, op := Go.Op.call { callee := Go.Callee.value (Go.Operand.func 70), args := #[Go.Operand.tmp 108], argTypes := #[5] }, type := 3, pos := "ref.go:55", after := #[{ on := 4, ground := Go.Ground.data }], guard := none }) rfl (fun K hK => ?_) AllReadyH.nil
                        go_simp
                        (go_at_call 70; refine (value_any y2 l2 _).mono ?_; rintro e w' ⟨rfl, rfl⟩; rw [V2.out])
                        first | (go_wp2_with fail) | skip
                        refine hK.out _ _ ?_ (fun hNew => ?_)
                        focus ((try dsimp only); all_goals trivial)
                        clear hK K hHeld
                        have hHeld := hNew
                        clear hNew
                        try simp only [Act.put, List.setIfInBounds_toArray, List.set_cons_zero, List.set_cons_succ]
                        refine wpAnyH_take (i := 6) (oi := { dst := some 110, op := Go.Op.binOp Go.BinOp.mul 3 (Go.Operand.const (Go.Value.int Go.IntKind.i64 16)) (Go.Operand.tmp 109) 3, type := 3, pos := "ref.go:55", after := #[{ on := 5, ground := Go.Ground.data }], guard := none }) (v := ?_) rfl (by kernel_rfl) (by kernel_rfl) (by kernel_rfl) (fun _ _ _ h => h) (Or.inl ⟨by rfl, ?_⟩) (by assumption) ?_
                        rotate_left
                        focus ((intro w hSw; (try dsimp only at hSw); go_simp) <;> (with_reducible rfl))
                        try simp only [Act.put, List.setIfInBounds_toArray, List.set_cons_zero, List.set_cons_succ]
                        refine wpAnyH_ready (rs := [11]) (by kernel_rfl) (by simp) ?_
                        refine AllReadyH.cons (o := { dst := some 115, op := Go.Op.call { callee := Go.Callee.value (Go.Operand.func 70), args := #[Go.Operand.tmp 114], argTypes := #[5] }, type := 3, pos := "ref.go:55", after := #[{ on := 10, ground := Go.Ground.data }, { on := 5, ground := Go.Ground.chain }], guard := none }) rfl (fun K hK => ?_) AllReadyH.nil
                        go_simp
                        (go_at_call 70; refine (value_any y3 l3 _).mono ?_; rintro e w' ⟨rfl, rfl⟩; rw [V3.out])
                        first | (go_wp2_with fail) | skip
                        refine hK.out _ _ ?_ (fun hNew => ?_)
                        focus ((try dsimp only); all_goals trivial)
                        clear hK K hHeld
                        have hHeld := hNew
                        clear hNew
                        try simp only [Act.put, List.setIfInBounds_toArray, List.set_cons_zero, List.set_cons_succ]
                        refine wpAnyH_take (i := 12) (oi := { dst := some 116, op := Go.Op.binOp Go.BinOp.add 3 (Go.Operand.tmp 110) (Go.Operand.tmp 115) 3, type := 3, pos := "ref.go:55", after := #[{ on := 6, ground := Go.Ground.data }, { on := 11, ground := Go.Ground.data }], guard := none }) (v := ?_) rfl (by kernel_rfl) (by kernel_rfl) (by kernel_rfl) (fun _ _ _ h => h) (Or.inl ⟨by rfl, ?_⟩) (by assumption) ?_
                        rotate_left
                        focus ((intro w hSw; (try dsimp only at hSw); go_simp) <;> (with_reducible rfl))
                        try simp only [Act.put, List.setIfInBounds_toArray, List.set_cons_zero, List.set_cons_succ]
                        refine wpAnyH_take (i := 13) (oi := { dst := some 117, op := Go.Op.convert 3 5 (Go.Operand.tmp 116), type := 5, pos := "ref.go:55", after := #[{ on := 12, ground := Go.Ground.data }], guard := none }) (v := ?_) rfl (by kernel_rfl) (by kernel_rfl) (by kernel_rfl) (fun _ _ _ h => h) (Or.inl ⟨by rfl, ?_⟩) (by assumption) ?_
                        rotate_left
                        focus ((intro w hSw; (try dsimp only at hSw); go_simp) <;> (with_reducible rfl))
                        try simp only [Act.put, List.setIfInBounds_toArray, List.set_cons_zero, List.set_cons_succ]
                        refine wpAnyH_ready (rs := [14]) (by kernel_rfl) (by simp) ?_
                        refine AllReadyH.cons (o := { dst := some 118, op := Go.Op.buildSlice 65 1 #[(0, Go.Operand.tmp 117)], type := 65, pos := "ref.go:55", after := #[{ on := 13, ground := Go.Ground.data }], guard := none }) rfl (fun K hK => ?_) AllReadyH.nil
                        go_simp
                        refine hK.out _ _ ?_ (fun hNew => ?_)
                        focus ((try dsimp only); all_goals trivial)
                        clear hK K hHeld
                        have hHeld := hNew
                        clear hNew
                        try simp only [Act.put, List.setIfInBounds_toArray, List.set_cons_zero, List.set_cons_succ]
                        refine wpAnyH_ready (rs := [15]) (by kernel_rfl) (by simp) ?_
                        refine AllReadyH.cons (o := { dst := some 119, op := Go.Op.convert 65 9 (Go.Operand.tmp 118), type := 9, pos := "ref.go:55", after := #[{ on := 14, ground := Go.Ground.data }], guard := none }) rfl (fun K hK => ?_) AllReadyH.nil
                        go_simp
                        refine hK.out _ _ ?_ (fun hNew => ?_)
                        focus ((try dsimp only); all_goals trivial)
                        clear hK K hHeld
                        have hHeld := hNew
                        clear hNew
                        try simp only [Act.put, List.setIfInBounds_toArray, List.set_cons_zero, List.set_cons_succ]
                        refine wpAnyH_take (i := 16) (oi := { dst := some 120, op := Go.Op.binOp Go.BinOp.add 9 (Go.Operand.tmp 104) (Go.Operand.tmp 119) 9, type := 9, pos := "ref.go:55", after := #[{ on := 0, ground := Go.Ground.data }, { on := 15, ground := Go.Ground.data }], guard := none }) (v := ?_) rfl (by kernel_rfl) (by kernel_rfl) (by kernel_rfl) (fun _ _ _ h => h) (Or.inl ⟨by rfl, ?_⟩) (by assumption) ?_
                        rotate_left
                        focus ((intro w hSw; (try dsimp only at hSw); go_simp) <;> (with_reducible rfl))
                        try simp only [Act.put, List.setIfInBounds_toArray, List.set_cons_zero, List.set_cons_succ]
                        refine wpAnyH_take (i := 17) (oi := { dst := some 6, op := Go.Op.assign (Go.Operand.tmp 120), type := 9, pos := "ref.go:55", after := #[{ on := 16, ground := Go.Ground.data }, { on := 11, ground := Go.Ground.chain }, { on := 0, ground := Go.Ground.phase }, { on := 1, ground := Go.Ground.phase }, { on := 2, ground := Go.Ground.phase }, { on := 3, ground := Go.Ground.phase }, { on := 4, ground := Go.Ground.phase }, { on := 5, ground := Go.Ground.phase }, { on := 6, ground := Go.Ground.phase }, { on := 7, ground := Go.Ground.phase }, { on := 8, ground := Go.Ground.phase }, { on := 9, ground := Go.Ground.phase }, { on := 10, ground := Go.Ground.phase }, { on := 11, ground := Go.Ground.phase }, { on := 12, ground := Go.Ground.phase }, { on := 13, ground := Go.Ground.phase }, { on := 14, ground := Go.Ground.phase }, { on := 15, ground := Go.Ground.phase }, { on := 16, ground := Go.Ground.phase }], guard := none }) (v := ?_) rfl (by kernel_rfl) (by kernel_rfl) (by kernel_rfl) (fun _ _ _ h => h) (Or.inl ⟨by rfl, ?_⟩) (by assumption) ?_
                        rotate_left
                        focus ((intro w hSw; (try dsimp only at hSw); go_simp) <;> (with_reducible rfl))
                        try simp only [Act.put, List.setIfInBounds_toArray, List.set_cons_zero, List.set_cons_succ]
                        refine wpAnyH_done (by kernel_rfl) ?_ _
                        refine NoPanic.normal ?_
                        clear hHeld
                        clear hcv
                        first | (go_wp2_with fail) | skip
                        go_roundw
                        case rel => exact ⟨k + 4, O ++ [X], by omega, by omega, by go_num, by simp, by simp; omega, hnext, (hB.alloc hB.size _).drew⟩
                        case measure => simp [intOf]; omega
                      · have f3 : decide ((0 : Int) ≤ v3) = false := decide_eq_false n3
                        have hres : Hid ((RS, RN) = (([] : List UInt8), 0)) := Lib.hid (by rw [← hp.out, quo_bad (step_hex_no hk3 HC.out HE2.out (fun h => n3 ((HX3.out.trans V3.out) ▸ h.2.2)))]; rfl)
                        obtain ⟨r1, r2⟩ := Prod.mk.inj hres.out
                        subst r1 r2
                        clear hres
                        go_wp2_with fail
                        refine (value_any y2 l2 _).mono ?_
                        rintro e w' ⟨rfl, rfl⟩
                        rw [V2.out]
                        go_wp2_with fail
                        refine (value_any y3 l3 _).mono ?_
                        rintro e w' ⟨rfl, rfl⟩
                        rw [V3.out]
                        go_wp2_with fail
                        go_ret2
                        exact ⟨by simp, hB⟩
                    · have f2 : decide ((0 : Int) ≤ v2) = false := decide_eq_false n2
                      have hres : Hid ((RS, RN) = (([] : List UInt8), 0)) := Lib.hid (by rw [← hp.out, quo_bad (step_hex_no hk3 HC.out HE2.out (fun h => n2 ((HX2.out.trans V2.out) ▸ h.2.1)))]; rfl)
                      obtain ⟨r1, r2⟩ := Prod.mk.inj hres.out
                      subst r1 r2
                      clear hres
                      go_wp2_with fail
                      refine (value_any y2 l2 _).mono ?_
                      rintro e w' ⟨rfl, rfl⟩
                      rw [V2.out]
                      go_wp2_with fail
                      go_ret2
                      exact ⟨by simp, hB⟩
                  · have e3 : ((y1 : Int) == 120) = false := by rw [beq_eq_false_iff_ne]; omega
                    have e03 : (y1 == 120) = false := by rw [beq_eq_false_iff_ne]; omega
                    have hres : Hid ((RS, RN) = (([] : List UInt8), 0)) := Lib.hid (by rw [← hp.out, quo_bad (step_hex_no hk3 HC.out HE2.out (fun h => h120 (HX1.out.symm.trans h.1)))]; rfl)
                    obtain ⟨r1, r2⟩ := Prod.mk.inj hres.out
                    subst r1 r2
                    clear hres
                    go_wp2_with fail
                    go_ret2
                    exact ⟨by simp, hB⟩
                · have c3 : decide (((k + 3 : Nat) : Int) < (l.length : Int)) = false := decide_eq_false (by omega)
                  have c4 : decide ((k : Int) + 3 < (l.length : Int)) = false := decide_eq_false (by omega)
                  have hres : Hid ((RS, RN) = (([] : List UInt8), 0)) := Lib.hid (by rw [← hp.out, quo_bad (step_short hk1 hk3 HC.out HE2.out)]; rfl)
                  obtain ⟨r1, r2⟩ := Prod.mk.inj hres.out
                  subst r1 r2
                  clear hres
                  go_wp2_with fail
                  go_ret2
                  exact ⟨by simp, hB⟩
            · have c1 : decide (((k + 1 : Nat) : Int) < (l.length : Int)) = false := decide_eq_false (by omega)
              have c2 : decide ((k : Int) + 1 < (l.length : Int)) = false := decide_eq_false (by omega)
              have c3 : decide (((k + 3 : Nat) : Int) < (l.length : Int)) = false := decide_eq_false (by omega)
              have c4 : decide ((k : Int) + 3 < (l.length : Int)) = false := decide_eq_false (by omega)
              have hres : Hid ((RS, RN) = (([] : List UInt8), 0)) := Lib.hid (by rw [← hp.out, quo_bad (step_last hlt hk1 HC.out)]; rfl)
              obtain ⟨r1, r2⟩ := Prod.mk.inj hres.out
              subst r1 r2
              clear hres
              go_wp2_with fail
              go_ret2
              exact ⟨by simp, hB⟩
          · have a2 : ((y : Int) != 92) = true := by rw [bne_iff_ne]; omega
            have a3 : ((y : Int) == 92) = false := by rw [beq_eq_false_iff_ne]; omega
            have a02 : (y == 92) = false := by rw [beq_eq_false_iff_ne]; omega
            have hnext : Hid (quoR (O ++ [x]) (k + 1 - at0) (quo (l.drop (k + 1))) = (RS, RN)) := Lib.hid (by
              rw [← hp.out, quo_more (m := 0) hne (step_plain hlt (by rw [HX.out]; exact h34) (by rw [HX.out]; exact hbad) (by rw [HX.out]; exact h92)), quoR_more, List.drop_drop, hx, show k - at0 + (0 + 1) = k + 1 - at0 by omega])
            have g1 := ba_cut1' l k hlt
            rw [hx] at g1
            have s1 : ∀ w, (Op.stringOp .add ⟨O.toArray⟩ ⟨#[x]⟩).run Tryd.prog w = .ok (.string ⟨(O ++ [x]).toArray⟩) w := fun w => str_add O [x] (by unfold Small; simp; omega)
            clear hyx h34 hbad h92
            go_wp2_with fail
            go_roundw
            case rel => exact ⟨k + 1, O ++ [x], by omega, by omega, by go_num, rfl, by simp; omega, hnext, hB⟩
            case measure => simp [intOf]; omega
    · have h1 : decide ((k : Int) < (l.length : Int)) = false := decide_eq_false (by omega)
      have hres : Hid ((RS, RN) = (([] : List UInt8), 0)) := Lib.hid (by rw [← hp.out, List.drop_eq_nil_of_le (by omega), quo_nil]; rfl)
      obtain ⟨r1, r2⟩ := Prod.mk.inj hres.out
      subst r1 r2
      clear hres
      go_wp2_with fail
      go_ret2
      exact ⟨by simp, hB⟩
end Go.Proofs.YtacceiloggnekaaDoor
