/-
  The reference's Write for every text.
-/
import Derived.Test.YtacceiloggnekaaDoorRRef1
import Derived.Laws.Entries
import Derived.Below
import Derived.Deep.RegionHeld3
import Derived.Deep.DeepCutAuto
import Derived.BigQuiet
import Derived.Deep.QuietTactic
import Derived.Laws.DeepStrings4
namespace Go.Proofs.YtacceiloggnekaaDoor
open Go.RowKit
attribute [local go_sem] ba_get
theorem ba_cut1 (l : List UInt8) (i : Nat) (h : i < l.length) : (ByteArray.mk l.toArray).extract i (i + 1) = ⟨[(l[i]?).getD 0].toArray⟩ := by
  apply ByteArray.ext
  rw [ByteArray.data_extract]
  rw [List.extract_toArray, List.extract_eq_take_drop, Nat.add_sub_cancel_left, List.drop_eq_getElem_cons h, List.getElem?_eq_getElem h]
  rfl
theorem ba_cut1' (l : List UInt8) (i : Nat) (h : i < l.length) : (ByteArray.mk l.toArray).extract i (i + 1) = ⟨#[l[i]]⟩ := by
  rw [ba_cut1 l i h, List.getElem?_eq_getElem h]; rfl
theorem ba_append (a b : List UInt8) : ByteArray.mk a.toArray ++ ByteArray.mk b.toArray = ⟨(a ++ b).toArray⟩ := by
  apply ByteArray.ext
  rw [ByteArray.data_append]
  simp
/-- A length that a string may have. -/
def Small (n : Nat) : Prop := n ≤ 9223372036854775807
theorem str_add {P : Program} {w : World} (a b : List UInt8) (h : Small (a.length + b.length)) : (Op.stringOp .add ⟨a.toArray⟩ ⟨b.toArray⟩).run P w = .ok (.string ⟨(a ++ b).toArray⟩) w := by
  rw [← ba_append]
  exact run_string_add_sum _ _ _ h
theorem wrap8 {x : Nat} (h : x < 256) : IntKind.u8.wrap (x : Int) = (x : Int) := by
  simp only [IntKind.wrap, IntKind.bits, IntKind.signed]
  simp
  omega
set_option maxHeartbeats 2000000 in
theorem refWrite_any (l : List UInt8) (hl : l.length < 1000000) (w : World) :
    Calls Tryd.prog 25 #[.string ⟨l.toArray⟩] w fun e w' => e = .returned (.string ⟨(writeL l).toArray⟩) ∧ Below w.heap.size w w' := by
  obtain ⟨v, hv⟩ : ∃ v, bareV l = v := ⟨_, rfl⟩
  have HV := Lib.hid hv
  clear hv
  go_enter Tryd.func25, Tryd.ntmps25
  go_wp2_with fail
  refine (refBare_any l hl _).mono ?_
  rintro e w' ⟨rfl, rfl⟩
  rw [HV.out]
  cases v
  · have HR : Hid (writeL l = 34 :: escL l ++ [34]) := Lib.hid (by unfold writeL; rw [HV.out]; rfl)
    go_wp2_with fail
    go_loopw [3, 4] (fun o i wr => ∃ (k : Nat) (O : List UInt8), k ≤ l.length ∧ i = .int .i64 k ∧ o = .string ⟨O.toArray⟩ ∧ Hid (O = 34 :: escL (l.take k)) ∧ Below w.heap.size w wr) (fun _ i _ => l.length - (intOf i).toNat)
    case atStart => exact ⟨0, [34], Nat.zero_le _, rfl, rfl, Lib.hid (by rw [List.take_zero]; rfl), Below.refl _ _⟩
    case round =>
      obtain ⟨k, O, hk, rfl, rfl, hO, hB⟩ := hrel
      have hOl : Hid (O.length ≤ 4 * k + 1) := Lib.hid (by
        have := escL_len (l.take k)
        rw [List.length_take, Nat.min_eq_left hk] at this
        rw [hO.out, List.length_cons]
        omega)
      by_cases hlt : k < l.length
      · have h1 : decide ((k : Int) < (l.length : Int)) = true := decide_eq_true (by omega)
        have hb2 : (k : Int) < (l.length : Int) := by omega
        have hnext := Lib.hid (escL_take hlt)
        have hlt2 : (l[k]).toNat < 256 := UInt8.toNat_lt _
        have g1 := ba_cut1' l k hlt
        obtain ⟨x, hx⟩ : ∃ x, l[k] = x := ⟨_, rfl⟩
        obtain ⟨y, hy⟩ : ∃ y, x.toNat = y := ⟨_, rfl⟩
        have HE : Hid (escL (l.take (k + 1)) = escL (l.take k) ++ (if y = 34 ∨ y = 92 then [92, x] else if 32 ≤ y ∧ y < 127 then [x] else [92, 120, hexC (y / 16), hexC (y % 16)])) := Lib.hid (by
          rw [hnext.out, hx]; unfold escB; rw [hy])
        have hy2 : y < 256 := by rw [← hy, ← hx]; exact hlt2
        rw [hx] at g1
        clear hlt2 hnext
        by_cases hq : y = 34 ∨ y = 92
        · have hX : Hid (O ++ [92, x] = 34 :: escL (l.take (k + 1))) := Lib.hid (by rw [HE.out, if_pos hq, hO.out]; simp)
          have s1 : ∀ w, (Op.stringOp .add ⟨O.toArray⟩ ⟨#[92]⟩).run Tryd.prog w = .ok (.string ⟨(O ++ [92]).toArray⟩) w := fun w => str_add O [92] (by have := hOl.out; unfold Small; simp; omega)
          have s2 : ∀ w, (Op.stringOp .add ⟨(O ++ [92]).toArray⟩ ⟨#[x]⟩).run Tryd.prog w = .ok (.string ⟨(O ++ [92] ++ [x]).toArray⟩) w := fun w => str_add (O ++ [92]) [x] (by have := hOl.out; unfold Small; simp; omega)
          rcases hq with hq | hq
          · have a1 : ((y : Int) == 34) = true := by rw [beq_iff_eq]; omega
            have a0 : (y == 34) = true := by rw [beq_iff_eq]; omega
            clear hq
            go_wp2_with fail
            go_roundw
            case rel => exact ⟨k + 1, O ++ [92, x], by omega, by go_num, rfl, hX, hB⟩
            case measure => simp [intOf]; omega
          · have a1 : ((y : Int) == 34) = false := by rw [beq_eq_false_iff_ne]; omega
            have a2 : ((y : Int) == 92) = true := by rw [beq_iff_eq]; omega
            have a01 : (y == 34) = false := by rw [beq_eq_false_iff_ne]; omega
            have a02 : (y == 92) = true := by rw [beq_iff_eq]; omega
            clear hq
            go_wp2_with fail
            go_roundw
            case rel => exact ⟨k + 1, O ++ [92, x], by omega, by go_num, rfl, hX, hB⟩
            case measure => simp [intOf]; omega
        · have a1 : ((y : Int) == 34) = false := by rw [beq_eq_false_iff_ne]; omega
          have a2 : ((y : Int) == 92) = false := by rw [beq_eq_false_iff_ne]; omega
          have a01 : (y == 34) = false := by rw [beq_eq_false_iff_ne]; omega
          have a02 : (y == 92) = false := by rw [beq_eq_false_iff_ne]; omega
          by_cases hp : 32 ≤ y ∧ y < 127
          · have hX : Hid (O ++ [x] = 34 :: escL (l.take (k + 1))) := Lib.hid (by rw [HE.out, if_neg hq, if_pos hp, hO.out]; simp)
            have s1 : ∀ w, (Op.stringOp .add ⟨O.toArray⟩ ⟨#[x]⟩).run Tryd.prog w = .ok (.string ⟨(O ++ [x]).toArray⟩) w := fun w => str_add O [x] (by have := hOl.out; unfold Small; simp; omega)
            have d1 : decide ((32 : Int) ≤ (y : Int)) = true := decide_eq_true (by omega)
            have d2 : decide ((y : Int) < 127) = true := decide_eq_true (by omega)
            have d01 : decide (32 ≤ y) = true := decide_eq_true (by omega)
            have d02 : decide (y < 127) = true := decide_eq_true (by omega)
            clear hq hp
            go_wp2_with fail
            go_roundw
            case rel => exact ⟨k + 1, O ++ [x], by omega, by go_num, rfl, hX, hB⟩
            case measure => simp [intOf]; omega
          · have hX := Lib.hid (show O ++ [92, 120] ++ [hexC (y / 16)] ++ [hexC (y % 16)] = 34 :: escL (l.take (k + 1)) by rw [HE.out, if_neg hq, if_neg hp, hO.out]; simp)
            obtain ⟨a, ha⟩ : ∃ a, y / 16 = a := ⟨_, rfl⟩
            obtain ⟨b, hb⟩ : ∃ b, y % 16 = b := ⟨_, rfl⟩
            have ha16 : a < 16 := by omega
            have hb16 : b < 16 := by omega
            have g2 := ba_cut1 hexU a (by show a < 16; omega)
            have g3 := ba_cut1 hexU b (by show b < 16; omega)
            obtain ⟨p, hp1⟩ : ∃ p, hexC a = p := ⟨_, rfl⟩
            obtain ⟨q, hq1⟩ : ∃ q, hexC b = q := ⟨_, rfl⟩
            rw [show (hexU[a]?).getD 0 = p from hp1] at g2
            rw [show (hexU[b]?).getD 0 = q from hq1] at g3
            rw [ha, hb, hp1, hq1] at hX
            unfold hexU at g2 g3
            have q1 : ((y : Int)) / 16 = (a : Int) := by omega
            have q2 : ((y : Int)).tdiv 16 = (a : Int) := by rw [Int.tdiv_eq_ediv_of_nonneg (by omega)]; exact q1
            have q3 : ((y : Int)) % 16 = (b : Int) := by omega
            have q4 : ((y : Int)).tmod 16 = (b : Int) := by rw [Int.tmod_eq_emod_of_nonneg (by omega)]; exact q3
            have q5 : IntKind.u8.wrap (a : Int) = (a : Int) := wrap8 (by omega)
            have q6 : IntKind.u8.wrap ((a : Int) + 1) = (a : Int) + 1 := wrap8 (x := a + 1) (by omega)
            have q7 : IntKind.u8.wrap (b : Int) = (b : Int) := wrap8 (by omega)
            have q8 : IntKind.u8.wrap ((b : Int) + 1) = (b : Int) + 1 := wrap8 (x := b + 1) (by omega)
            have n1 : ((a : Int) + 1).toNat = a + 1 := by omega
            have n2 : ((b : Int) + 1).toNat = b + 1 := by omega
            have b1 : 0 ≤ (a : Int) + 1 ∧ (a : Int) + 1 ≤ 16 := ⟨by omega, by omega⟩
            have b2 : 0 ≤ (b : Int) + 1 ∧ (b : Int) + 1 ≤ 16 := ⟨by omega, by omega⟩
            have b3 : (a : Int) ≤ (a : Int) + 1 := by omega
            have b4 : (b : Int) ≤ (b : Int) + 1 := by omega
            have s1 : ∀ w, (Op.stringOp .add ⟨O.toArray⟩ ⟨#[92, 120]⟩).run Tryd.prog w = .ok (.string ⟨(O ++ [92, 120]).toArray⟩) w := fun w => str_add O [92, 120] (by have := hOl.out; unfold Small; simp; omega)
            have s2 : ∀ w, (Op.stringOp .add ⟨(O ++ [92, 120]).toArray⟩ ⟨#[p]⟩).run Tryd.prog w = .ok (.string ⟨(O ++ [92, 120] ++ [p]).toArray⟩) w := fun w => str_add (O ++ [92, 120]) [p] (by have := hOl.out; unfold Small; simp; omega)
            have s3 : ∀ w, (Op.stringOp .add ⟨(O ++ [92, 120, p]).toArray⟩ ⟨#[q]⟩).run Tryd.prog w = .ok (.string ⟨(O ++ [92, 120, p] ++ [q]).toArray⟩) w := fun w => str_add (O ++ [92, 120, p]) [q] (by have := hOl.out; unfold Small; simp; omega)
            have d0 : ¬ (32 ≤ y ∧ y < 127) := hp
            by_cases hh : 32 ≤ y
            · have d1 : decide ((32 : Int) ≤ (y : Int)) = true := decide_eq_true (by omega)
              have d2 : decide ((y : Int) < 127) = false := decide_eq_false (by omega)
              have d01 : decide (32 ≤ y) = true := decide_eq_true (by omega)
              have d02 : decide (y < 127) = false := decide_eq_false (by omega)
              clear hq hp d0 ha hb hp1 hq1
              go_upto_region 8 with fail
              refine wp_region_noPanic ?_
              refine wp_region_held_drew (S := fun _ => True) (by kernel_rfl) ?_ (fun hHeld => ?_)
              focus ((try dsimp only); all_goals trivial)
              try simp only [Act.put, List.setIfInBounds_toArray, List.set_cons_zero, List.set_cons_succ]
              refine wpAnyH_take (i := 0) (oi := { dst := some 18, op := Go.Op.move (Go.Operand.tmp 3), type := 9, pos := "ref.go:144", after := #[], guard := none }) (v := ?_) rfl (by kernel_rfl) (by kernel_rfl) (by kernel_rfl) (fun _ _ _ h => h) (Or.inl ⟨by rfl, ?_⟩) (by assumption) ?_
              rotate_left
              focus ((intro w hSw; (try dsimp only at hSw); go_simp) <;> (with_reducible rfl))
              try simp only [Act.put, List.setIfInBounds_toArray, List.set_cons_zero, List.set_cons_succ]
              refine wpAnyH_take (i := 1) (oi := { dst := some 19, op := Go.Op.binOp Go.BinOp.add 9 (Go.Operand.tmp 18) (Go.Operand.const (Go.Value.string { data := #[92, 120] })) 9, type := 9, pos := "ref.go:144", after := #[{ on := 0, ground := Go.Ground.data }], guard := none }) (v := ?_) rfl (by kernel_rfl) (by kernel_rfl) (by kernel_rfl) (fun _ _ _ h => h) (Or.inl ⟨by rfl, ?_⟩) (by assumption) ?_
              rotate_left
              focus ((intro w hSw; (try dsimp only at hSw); go_simp) <;> (with_reducible rfl))
              try simp only [Act.put, List.setIfInBounds_toArray, List.set_cons_zero, List.set_cons_succ]
              refine wpAnyH_take (i := 2) (oi := { dst := some 20, op := Go.Op.move (Go.Operand.tmp 5), type := 5, pos := "ref.go:144", after := #[], guard := none }) (v := ?_) rfl (by kernel_rfl) (by kernel_rfl) (by kernel_rfl) (fun _ _ _ h => h) (Or.inl ⟨by rfl, ?_⟩) (by assumption) ?_
              rotate_left
              focus ((intro w hSw; (try dsimp only at hSw); go_simp) <;> (with_reducible rfl))
              try simp only [Act.put, List.setIfInBounds_toArray, List.set_cons_zero, List.set_cons_succ]
              refine wpAnyH_take (i := 3) (oi := { dst := some 21, op := Go.Op.binOp Go.BinOp.quo 5 (Go.Operand.tmp 20) (Go.Operand.const (Go.Value.int Go.IntKind.u8 16)) 5, type := 5, pos := "ref.go:144", after := #[{ on := 2, ground := Go.Ground.data }], guard := none }) (v := ?_) rfl (by kernel_rfl) (by kernel_rfl) (by kernel_rfl) (fun _ _ _ h => h) (Or.inl ⟨by rfl, ?_⟩) (by assumption) ?_
              rotate_left
              focus ((intro w hSw; (try dsimp only at hSw); go_simp) <;> (with_reducible rfl))
              try simp only [Act.put, List.setIfInBounds_toArray, List.set_cons_zero, List.set_cons_succ]
              refine wpAnyH_take (i := 4) (oi := { dst := some 22, op := Go.Op.move (Go.Operand.tmp 5), type := 5, pos := "ref.go:144", after := #[], guard := none }) (v := ?_) rfl (by kernel_rfl) (by kernel_rfl) (by kernel_rfl) (fun _ _ _ h => h) (Or.inl ⟨by rfl, ?_⟩) (by assumption) ?_
              rotate_left
              focus ((intro w hSw; (try dsimp only at hSw); go_simp) <;> (with_reducible rfl))
              try simp only [Act.put, List.setIfInBounds_toArray, List.set_cons_zero, List.set_cons_succ]
              refine wpAnyH_take (i := 5) (oi := { dst := some 23, op := Go.Op.binOp Go.BinOp.quo 5 (Go.Operand.tmp 22) (Go.Operand.const (Go.Value.int Go.IntKind.u8 16)) 5, type := 5, pos := "ref.go:144", after := #[{ on := 4, ground := Go.Ground.data }], guard := none }) (v := ?_) rfl (by kernel_rfl) (by kernel_rfl) (by kernel_rfl) (fun _ _ _ h => h) (Or.inl ⟨by rfl, ?_⟩) (by assumption) ?_
              rotate_left
              focus ((intro w hSw; (try dsimp only at hSw); go_simp) <;> (with_reducible rfl))
              try simp only [Act.put, List.setIfInBounds_toArray, List.set_cons_zero, List.set_cons_succ]
              refine wpAnyH_take (i := 6) (oi := { dst := some 24, op := Go.Op.binOp Go.BinOp.add 5 (Go.Operand.tmp 23) (Go.Operand.const (Go.Value.int Go.IntKind.u8 1)) 5, type := 5, pos := "ref.go:144", after := #[{ on := 5, ground := Go.Ground.data }], guard := none }) (v := ?_) rfl (by kernel_rfl) (by kernel_rfl) (by kernel_rfl) (fun _ _ _ h => h) (Or.inl ⟨by rfl, ?_⟩) (by assumption) ?_
              rotate_left
              focus ((intro w hSw; (try dsimp only at hSw); go_simp) <;> (with_reducible rfl))
              try simp only [Act.put, List.setIfInBounds_toArray, List.set_cons_zero, List.set_cons_succ]
              refine wpAnyH_take (i := 7) (oi := { dst := some 25, op := Go.Op.slice 9 (Go.Operand.const (Go.Value.string { data := #[48, 49, 50, 51, 52, 53, 54, 55, 56, 57, 97, 98, 99, 100, 101, 102] })) (some (Go.Operand.tmp 21)) (some (Go.Operand.tmp 24)) none, type := 9, pos := "ref.go:144", after := #[{ on := 3, ground := Go.Ground.data }, { on := 6, ground := Go.Ground.data }], guard := none }) (v := ?_) rfl (by kernel_rfl) (by kernel_rfl) (by kernel_rfl) (fun _ _ _ h => h) (Or.inl ⟨by rfl, ?_⟩) (by assumption) ?_
              rotate_left
              focus ((intro w hSw; (try dsimp only at hSw); go_simp) <;> (with_reducible rfl))
              try simp only [Act.put, List.setIfInBounds_toArray, List.set_cons_zero, List.set_cons_succ]
              refine wpAnyH_take (i := 8) (oi := { dst := some 26, op := Go.Op.binOp Go.BinOp.add 9 (Go.Operand.tmp 19) (Go.Operand.tmp 25) 9, type := 9, pos := "ref.go:144", after := #[{ on := 1, ground := Go.Ground.data }, { on := 7, ground := Go.Ground.data }], guard := none }) (v := ?_) rfl (by kernel_rfl) (by kernel_rfl) (by kernel_rfl) (fun _ _ _ h => h) (Or.inl ⟨by rfl, ?_⟩) (by assumption) ?_
              rotate_left
              focus ((intro w hSw; (try dsimp only at hSw); go_simp) <;> (with_reducible rfl))
              try simp only [Act.put, List.setIfInBounds_toArray, List.set_cons_zero, List.set_cons_succ]
              refine wpAnyH_take (i := 9) (oi := { dst := some 27, op := Go.Op.move (Go.Operand.tmp 5), type := 5, pos := "ref.go:144", after := #[], guard := none }) (v := ?_) rfl (by kernel_rfl) (by kernel_rfl) (by kernel_rfl) (fun _ _ _ h => h) (Or.inl ⟨by rfl, ?_⟩) (by assumption) ?_
              rotate_left
              focus ((intro w hSw; (try dsimp only at hSw); go_simp) <;> (with_reducible rfl))
              try simp only [Act.put, List.setIfInBounds_toArray, List.set_cons_zero, List.set_cons_succ]
              refine wpAnyH_take (i := 10) (oi := { dst := some 28, op := Go.Op.binOp Go.BinOp.rem 5 (Go.Operand.tmp 27) (Go.Operand.const (Go.Value.int Go.IntKind.u8 16)) 5, type := 5, pos := "ref.go:144", after := #[{ on := 9, ground := Go.Ground.data }], guard := none }) (v := ?_) rfl (by kernel_rfl) (by kernel_rfl) (by kernel_rfl) (fun _ _ _ h => h) (Or.inl ⟨by rfl, ?_⟩) (by assumption) ?_
              rotate_left
              focus ((intro w hSw; (try dsimp only at hSw); go_simp) <;> (with_reducible rfl))
              try simp only [Act.put, List.setIfInBounds_toArray, List.set_cons_zero, List.set_cons_succ]
              refine wpAnyH_take (i := 11) (oi := { dst := some 29, op := Go.Op.move (Go.Operand.tmp 5), type := 5, pos := "ref.go:144", after := #[], guard := none }) (v := ?_) rfl (by kernel_rfl) (by kernel_rfl) (by kernel_rfl) (fun _ _ _ h => h) (Or.inl ⟨by rfl, ?_⟩) (by assumption) ?_
              rotate_left
              focus ((intro w hSw; (try dsimp only at hSw); go_simp) <;> (with_reducible rfl))
              try simp only [Act.put, List.setIfInBounds_toArray, List.set_cons_zero, List.set_cons_succ]
              refine wpAnyH_take (i := 12) (oi := { dst := some 30, op := Go.Op.binOp Go.BinOp.rem 5 (Go.Operand.tmp 29) (Go.Operand.const (Go.Value.int Go.IntKind.u8 16)) 5, type := 5, pos := "ref.go:144", after := #[{ on := 11, ground := Go.Ground.data }], guard := none }) (v := ?_) rfl (by kernel_rfl) (by kernel_rfl) (by kernel_rfl) (fun _ _ _ h => h) (Or.inl ⟨by rfl, ?_⟩) (by assumption) ?_
              rotate_left
              focus ((intro w hSw; (try dsimp only at hSw); go_simp) <;> (with_reducible rfl))
              try simp only [Act.put, List.setIfInBounds_toArray, List.set_cons_zero, List.set_cons_succ]
              refine wpAnyH_take (i := 13) (oi := { dst := some 31, op := Go.Op.binOp Go.BinOp.add 5 (Go.Operand.tmp 30) (Go.Operand.const (Go.Value.int Go.IntKind.u8 1)) 5, type := 5, pos := "ref.go:144", after := #[{ on := 12, ground := Go.Ground.data }], guard := none }) (v := ?_) rfl (by kernel_rfl) (by kernel_rfl) (by kernel_rfl) (fun _ _ _ h => h) (Or.inl ⟨by rfl, ?_⟩) (by assumption) ?_
              rotate_left
              focus ((intro w hSw; (try dsimp only at hSw); go_simp) <;> (with_reducible rfl))
              try simp only [Act.put, List.setIfInBounds_toArray, List.set_cons_zero, List.set_cons_succ]
              refine wpAnyH_take (i := 14) (oi := { dst := some 32, op := Go.Op.slice 9 (Go.Operand.const (Go.Value.string { data := #[48, 49, 50, 51, 52, 53, 54, 55, 56, 57, 97, 98, 99, 100, 101, 102] })) (some (Go.Operand.tmp 28)) (some (Go.Operand.tmp 31)) none, type := 9, pos := "ref.go:144", after := #[{ on := 10, ground := Go.Ground.data }, { on := 13, ground := Go.Ground.data }], guard := none }) (v := ?_) rfl (by kernel_rfl) (by kernel_rfl) (by kernel_rfl) (fun _ _ _ h => h) (Or.inl ⟨by rfl, ?_⟩) (by assumption) ?_
              rotate_left
              focus ((intro w hSw; (try dsimp only at hSw); go_simp) <;> (with_reducible rfl))
              try simp only [Act.put, List.setIfInBounds_toArray, List.set_cons_zero, List.set_cons_succ]
              refine wpAnyH_take (i := 15) (oi := { dst := some 33, op := Go.Op.binOp Go.BinOp.add 9 (Go.Operand.tmp 26) (Go.Operand.tmp 32) 9, type := 9, pos := "ref.go:144", after := #[{ on := 8, ground := Go.Ground.data }, { on := 14, ground := Go.Ground.data }], guard := none }) (v := ?_) rfl (by kernel_rfl) (by kernel_rfl) (by kernel_rfl) (fun _ _ _ h => h) (Or.inl ⟨by rfl, ?_⟩) (by assumption) ?_
              rotate_left
              focus ((intro w hSw; (try dsimp only at hSw); go_simp) <;> (with_reducible rfl))
              try simp only [Act.put, List.setIfInBounds_toArray, List.set_cons_zero, List.set_cons_succ]
              refine wpAnyH_take (i := 16) (oi := { dst := some 3, op := Go.Op.assign (Go.Operand.tmp 33), type := 9, pos := "ref.go:144", after := #[{ on := 15, ground := Go.Ground.data }, { on := 0, ground := Go.Ground.phase }, { on := 1, ground := Go.Ground.phase }, { on := 2, ground := Go.Ground.phase }, { on := 3, ground := Go.Ground.phase }, { on := 4, ground := Go.Ground.phase }, { on := 5, ground := Go.Ground.phase }, { on := 6, ground := Go.Ground.phase }, { on := 7, ground := Go.Ground.phase }, { on := 8, ground := Go.Ground.phase }, { on := 9, ground := Go.Ground.phase }, { on := 10, ground := Go.Ground.phase }, { on := 11, ground := Go.Ground.phase }, { on := 12, ground := Go.Ground.phase }, { on := 13, ground := Go.Ground.phase }, { on := 14, ground := Go.Ground.phase }, { on := 15, ground := Go.Ground.phase }], guard := none }) (v := ?_) rfl (by kernel_rfl) (by kernel_rfl) (by kernel_rfl) (fun _ _ _ h => h) (Or.inl ⟨by rfl, ?_⟩) (by assumption) ?_
              rotate_left
              focus ((intro w hSw; (try dsimp only at hSw); go_simp) <;> (with_reducible rfl))
              try simp only [Act.put, List.setIfInBounds_toArray, List.set_cons_zero, List.set_cons_succ]
              refine wpAnyH_done (by kernel_rfl) ?_ _
              refine NoPanic.normal ?_
              clear hHeld
              first | (go_wp2_with fail) | skip
              go_roundw
              case rel => exact ⟨k + 1, O ++ [92, 120, p, q], by omega, by go_num, by simp, Lib.hid (by rw [← hX.out]; simp), hB.drew⟩
              case measure => simp [intOf]; omega
            · have d1 : decide ((32 : Int) ≤ (y : Int)) = false := decide_eq_false (by omega)
              have d01 : decide (32 ≤ y) = false := decide_eq_false (by omega)
              clear hq hp d0 ha hb hp1 hq1
              go_upto_region 8 with fail
              refine wp_region_noPanic ?_
              refine wp_region_held_drew (S := fun _ => True) (by kernel_rfl) ?_ (fun hHeld => ?_)
              focus ((try dsimp only); all_goals trivial)
              try simp only [Act.put, List.setIfInBounds_toArray, List.set_cons_zero, List.set_cons_succ]
              refine wpAnyH_take (i := 0) (oi := { dst := some 18, op := Go.Op.move (Go.Operand.tmp 3), type := 9, pos := "ref.go:144", after := #[], guard := none }) (v := ?_) rfl (by kernel_rfl) (by kernel_rfl) (by kernel_rfl) (fun _ _ _ h => h) (Or.inl ⟨by rfl, ?_⟩) (by assumption) ?_
              rotate_left
              focus ((intro w hSw; (try dsimp only at hSw); go_simp) <;> (with_reducible rfl))
              try simp only [Act.put, List.setIfInBounds_toArray, List.set_cons_zero, List.set_cons_succ]
              refine wpAnyH_take (i := 1) (oi := { dst := some 19, op := Go.Op.binOp Go.BinOp.add 9 (Go.Operand.tmp 18) (Go.Operand.const (Go.Value.string { data := #[92, 120] })) 9, type := 9, pos := "ref.go:144", after := #[{ on := 0, ground := Go.Ground.data }], guard := none }) (v := ?_) rfl (by kernel_rfl) (by kernel_rfl) (by kernel_rfl) (fun _ _ _ h => h) (Or.inl ⟨by rfl, ?_⟩) (by assumption) ?_
              rotate_left
              focus ((intro w hSw; (try dsimp only at hSw); go_simp) <;> (with_reducible rfl))
              try simp only [Act.put, List.setIfInBounds_toArray, List.set_cons_zero, List.set_cons_succ]
              refine wpAnyH_take (i := 2) (oi := { dst := some 20, op := Go.Op.move (Go.Operand.tmp 5), type := 5, pos := "ref.go:144", after := #[], guard := none }) (v := ?_) rfl (by kernel_rfl) (by kernel_rfl) (by kernel_rfl) (fun _ _ _ h => h) (Or.inl ⟨by rfl, ?_⟩) (by assumption) ?_
              rotate_left
              focus ((intro w hSw; (try dsimp only at hSw); go_simp) <;> (with_reducible rfl))
              try simp only [Act.put, List.setIfInBounds_toArray, List.set_cons_zero, List.set_cons_succ]
              refine wpAnyH_take (i := 3) (oi := { dst := some 21, op := Go.Op.binOp Go.BinOp.quo 5 (Go.Operand.tmp 20) (Go.Operand.const (Go.Value.int Go.IntKind.u8 16)) 5, type := 5, pos := "ref.go:144", after := #[{ on := 2, ground := Go.Ground.data }], guard := none }) (v := ?_) rfl (by kernel_rfl) (by kernel_rfl) (by kernel_rfl) (fun _ _ _ h => h) (Or.inl ⟨by rfl, ?_⟩) (by assumption) ?_
              rotate_left
              focus ((intro w hSw; (try dsimp only at hSw); go_simp) <;> (with_reducible rfl))
              try simp only [Act.put, List.setIfInBounds_toArray, List.set_cons_zero, List.set_cons_succ]
              refine wpAnyH_take (i := 4) (oi := { dst := some 22, op := Go.Op.move (Go.Operand.tmp 5), type := 5, pos := "ref.go:144", after := #[], guard := none }) (v := ?_) rfl (by kernel_rfl) (by kernel_rfl) (by kernel_rfl) (fun _ _ _ h => h) (Or.inl ⟨by rfl, ?_⟩) (by assumption) ?_
              rotate_left
              focus ((intro w hSw; (try dsimp only at hSw); go_simp) <;> (with_reducible rfl))
              try simp only [Act.put, List.setIfInBounds_toArray, List.set_cons_zero, List.set_cons_succ]
              refine wpAnyH_take (i := 5) (oi := { dst := some 23, op := Go.Op.binOp Go.BinOp.quo 5 (Go.Operand.tmp 22) (Go.Operand.const (Go.Value.int Go.IntKind.u8 16)) 5, type := 5, pos := "ref.go:144", after := #[{ on := 4, ground := Go.Ground.data }], guard := none }) (v := ?_) rfl (by kernel_rfl) (by kernel_rfl) (by kernel_rfl) (fun _ _ _ h => h) (Or.inl ⟨by rfl, ?_⟩) (by assumption) ?_
              rotate_left
              focus ((intro w hSw; (try dsimp only at hSw); go_simp) <;> (with_reducible rfl))
              try simp only [Act.put, List.setIfInBounds_toArray, List.set_cons_zero, List.set_cons_succ]
              refine wpAnyH_take (i := 6) (oi := { dst := some 24, op := Go.Op.binOp Go.BinOp.add 5 (Go.Operand.tmp 23) (Go.Operand.const (Go.Value.int Go.IntKind.u8 1)) 5, type := 5, pos := "ref.go:144", after := #[{ on := 5, ground := Go.Ground.data }], guard := none }) (v := ?_) rfl (by kernel_rfl) (by kernel_rfl) (by kernel_rfl) (fun _ _ _ h => h) (Or.inl ⟨by rfl, ?_⟩) (by assumption) ?_
              rotate_left
              focus ((intro w hSw; (try dsimp only at hSw); go_simp) <;> (with_reducible rfl))
              try simp only [Act.put, List.setIfInBounds_toArray, List.set_cons_zero, List.set_cons_succ]
              refine wpAnyH_take (i := 7) (oi := { dst := some 25, op := Go.Op.slice 9 (Go.Operand.const (Go.Value.string { data := #[48, 49, 50, 51, 52, 53, 54, 55, 56, 57, 97, 98, 99, 100, 101, 102] })) (some (Go.Operand.tmp 21)) (some (Go.Operand.tmp 24)) none, type := 9, pos := "ref.go:144", after := #[{ on := 3, ground := Go.Ground.data }, { on := 6, ground := Go.Ground.data }], guard := none }) (v := ?_) rfl (by kernel_rfl) (by kernel_rfl) (by kernel_rfl) (fun _ _ _ h => h) (Or.inl ⟨by rfl, ?_⟩) (by assumption) ?_
              rotate_left
              focus ((intro w hSw; (try dsimp only at hSw); go_simp) <;> (with_reducible rfl))
              try simp only [Act.put, List.setIfInBounds_toArray, List.set_cons_zero, List.set_cons_succ]
              refine wpAnyH_take (i := 8) (oi := { dst := some 26, op := Go.Op.binOp Go.BinOp.add 9 (Go.Operand.tmp 19) (Go.Operand.tmp 25) 9, type := 9, pos := "ref.go:144", after := #[{ on := 1, ground := Go.Ground.data }, { on := 7, ground := Go.Ground.data }], guard := none }) (v := ?_) rfl (by kernel_rfl) (by kernel_rfl) (by kernel_rfl) (fun _ _ _ h => h) (Or.inl ⟨by rfl, ?_⟩) (by assumption) ?_
              rotate_left
              focus ((intro w hSw; (try dsimp only at hSw); go_simp) <;> (with_reducible rfl))
              try simp only [Act.put, List.setIfInBounds_toArray, List.set_cons_zero, List.set_cons_succ]
              refine wpAnyH_take (i := 9) (oi := { dst := some 27, op := Go.Op.move (Go.Operand.tmp 5), type := 5, pos := "ref.go:144", after := #[], guard := none }) (v := ?_) rfl (by kernel_rfl) (by kernel_rfl) (by kernel_rfl) (fun _ _ _ h => h) (Or.inl ⟨by rfl, ?_⟩) (by assumption) ?_
              rotate_left
              focus ((intro w hSw; (try dsimp only at hSw); go_simp) <;> (with_reducible rfl))
              try simp only [Act.put, List.setIfInBounds_toArray, List.set_cons_zero, List.set_cons_succ]
              refine wpAnyH_take (i := 10) (oi := { dst := some 28, op := Go.Op.binOp Go.BinOp.rem 5 (Go.Operand.tmp 27) (Go.Operand.const (Go.Value.int Go.IntKind.u8 16)) 5, type := 5, pos := "ref.go:144", after := #[{ on := 9, ground := Go.Ground.data }], guard := none }) (v := ?_) rfl (by kernel_rfl) (by kernel_rfl) (by kernel_rfl) (fun _ _ _ h => h) (Or.inl ⟨by rfl, ?_⟩) (by assumption) ?_
              rotate_left
              focus ((intro w hSw; (try dsimp only at hSw); go_simp) <;> (with_reducible rfl))
              try simp only [Act.put, List.setIfInBounds_toArray, List.set_cons_zero, List.set_cons_succ]
              refine wpAnyH_take (i := 11) (oi := { dst := some 29, op := Go.Op.move (Go.Operand.tmp 5), type := 5, pos := "ref.go:144", after := #[], guard := none }) (v := ?_) rfl (by kernel_rfl) (by kernel_rfl) (by kernel_rfl) (fun _ _ _ h => h) (Or.inl ⟨by rfl, ?_⟩) (by assumption) ?_
              rotate_left
              focus ((intro w hSw; (try dsimp only at hSw); go_simp) <;> (with_reducible rfl))
              try simp only [Act.put, List.setIfInBounds_toArray, List.set_cons_zero, List.set_cons_succ]
              refine wpAnyH_take (i := 12) (oi := { dst := some 30, op := Go.Op.binOp Go.BinOp.rem 5 (Go.Operand.tmp 29) (Go.Operand.const (Go.Value.int Go.IntKind.u8 16)) 5, type := 5, pos := "ref.go:144", after := #[{ on := 11, ground := Go.Ground.data }], guard := none }) (v := ?_) rfl (by kernel_rfl) (by kernel_rfl) (by kernel_rfl) (fun _ _ _ h => h) (Or.inl ⟨by rfl, ?_⟩) (by assumption) ?_
              rotate_left
              focus ((intro w hSw; (try dsimp only at hSw); go_simp) <;> (with_reducible rfl))
              try simp only [Act.put, List.setIfInBounds_toArray, List.set_cons_zero, List.set_cons_succ]
              refine wpAnyH_take (i := 13) (oi := { dst := some 31, op := Go.Op.binOp Go.BinOp.add 5 (Go.Operand.tmp 30) (Go.Operand.const (Go.Value.int Go.IntKind.u8 1)) 5, type := 5, pos := "ref.go:144", after := #[{ on := 12, ground := Go.Ground.data }], guard := none }) (v := ?_) rfl (by kernel_rfl) (by kernel_rfl) (by kernel_rfl) (fun _ _ _ h => h) (Or.inl ⟨by rfl, ?_⟩) (by assumption) ?_
              rotate_left
              focus ((intro w hSw; (try dsimp only at hSw); go_simp) <;> (with_reducible rfl))
              try simp only [Act.put, List.setIfInBounds_toArray, List.set_cons_zero, List.set_cons_succ]
              refine wpAnyH_take (i := 14) (oi := { dst := some 32, op := Go.Op.slice 9 (Go.Operand.const (Go.Value.string { data := #[48, 49, 50, 51, 52, 53, 54, 55, 56, 57, 97, 98, 99, 100, 101, 102] })) (some (Go.Operand.tmp 28)) (some (Go.Operand.tmp 31)) none, type := 9, pos := "ref.go:144", after := #[{ on := 10, ground := Go.Ground.data }, { on := 13, ground := Go.Ground.data }], guard := none }) (v := ?_) rfl (by kernel_rfl) (by kernel_rfl) (by kernel_rfl) (fun _ _ _ h => h) (Or.inl ⟨by rfl, ?_⟩) (by assumption) ?_
              rotate_left
              focus ((intro w hSw; (try dsimp only at hSw); go_simp) <;> (with_reducible rfl))
              try simp only [Act.put, List.setIfInBounds_toArray, List.set_cons_zero, List.set_cons_succ]
              refine wpAnyH_take (i := 15) (oi := { dst := some 33, op := Go.Op.binOp Go.BinOp.add 9 (Go.Operand.tmp 26) (Go.Operand.tmp 32) 9, type := 9, pos := "ref.go:144", after := #[{ on := 8, ground := Go.Ground.data }, { on := 14, ground := Go.Ground.data }], guard := none }) (v := ?_) rfl (by kernel_rfl) (by kernel_rfl) (by kernel_rfl) (fun _ _ _ h => h) (Or.inl ⟨by rfl, ?_⟩) (by assumption) ?_
              rotate_left
              focus ((intro w hSw; (try dsimp only at hSw); go_simp) <;> (with_reducible rfl))
              try simp only [Act.put, List.setIfInBounds_toArray, List.set_cons_zero, List.set_cons_succ]
              refine wpAnyH_take (i := 16) (oi := { dst := some 3, op := Go.Op.assign (Go.Operand.tmp 33), type := 9, pos := "ref.go:144", after := #[{ on := 15, ground := Go.Ground.data }, { on := 0, ground := Go.Ground.phase }, { on := 1, ground := Go.Ground.phase }, { on := 2, ground := Go.Ground.phase }, { on := 3, ground := Go.Ground.phase }, { on := 4, ground := Go.Ground.phase }, { on := 5, ground := Go.Ground.phase }, { on := 6, ground := Go.Ground.phase }, { on := 7, ground := Go.Ground.phase }, { on := 8, ground := Go.Ground.phase }, { on := 9, ground := Go.Ground.phase }, { on := 10, ground := Go.Ground.phase }, { on := 11, ground := Go.Ground.phase }, { on := 12, ground := Go.Ground.phase }, { on := 13, ground := Go.Ground.phase }, { on := 14, ground := Go.Ground.phase }, { on := 15, ground := Go.Ground.phase }], guard := none }) (v := ?_) rfl (by kernel_rfl) (by kernel_rfl) (by kernel_rfl) (fun _ _ _ h => h) (Or.inl ⟨by rfl, ?_⟩) (by assumption) ?_
              rotate_left
              focus ((intro w hSw; (try dsimp only at hSw); go_simp) <;> (with_reducible rfl))
              try simp only [Act.put, List.setIfInBounds_toArray, List.set_cons_zero, List.set_cons_succ]
              refine wpAnyH_done (by kernel_rfl) ?_ _
              refine NoPanic.normal ?_
              clear hHeld
              first | (go_wp2_with fail) | skip
              go_roundw
              case rel => exact ⟨k + 1, O ++ [92, 120, p, q], by omega, by go_num, by simp, Lib.hid (by rw [← hX.out]; simp), hB.drew⟩
              case measure => simp [intOf]; omega
      · have h1 : decide ((k : Int) < (l.length : Int)) = false := decide_eq_false (by omega)
        have hres : Hid (O ++ [34] = writeL l) := Lib.hid (by rw [hO.out, HR.out, show k = l.length by omega, List.take_length])
        have s1 : ∀ w, (Op.stringOp .add ⟨O.toArray⟩ ⟨#[34]⟩).run Tryd.prog w = .ok (.string ⟨(O ++ [34]).toArray⟩) w := fun w => str_add O [34] (by have := hOl.out; unfold Small; simp; omega)
        go_wp2_with fail
        go_ret
        exact ⟨by rw [← hres.out]; rfl, hB⟩
  · have HR : Hid (writeL l = l) := Lib.hid (by unfold writeL; rw [HV.out]; rfl)
    go_wp2_with fail
    go_ret
    exact ⟨by rw [HR.out]; rfl, Below.refl _ _⟩
end Go.Proofs.YtacceiloggnekaaDoor
