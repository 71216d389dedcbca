/-
  The law PercentParts returns true for every list of numbers and every number.
-/
import Derived.Test.YtheajdgdllobbaaPKnown
import Derived.Test.YtheajdgdllobbaaPPartF
import Derived.Test.YtheajdgdllobbaaSlInts
import Derived.Test.YtheajdgdllobbaaKMod
namespace Go.Proofs.Ytheajdgdllobbaa
open Go.RowKit
attribute [local go_sem] ba_get ba_take
theorem ba_cut1 (l : List UInt8) (i : Nat) (h : i < l.length) : (ByteArray.mk l.toArray).extract i (i + 1) = ⟨[(l[i]?).getD 0].toArray⟩ := by
  apply ByteArray.ext
  rw [ByteArray.data_extract]
  rw [List.extract_toArray, List.extract_eq_take_drop, Nat.add_sub_cancel_left, List.drop_eq_getElem_cons h, List.getElem?_eq_getElem h]
  rfl
set_option maxRecDepth 100000 in
set_option maxHeartbeats 8000000 in
theorem parts_law (p : Option Addr) (len cap : Nat) (f : Nat → Int) (n : Int) (w : World) (hC : CellsIn w p (len * 1) (intC f)) :
    Calls Try.prog 9 #[.slice p len cap, .int .i64 n] w fun e w' => e = .returned (.bool true) ∧ Below w.heap.size w w' := by
  have HC := Lib.hid hC
  clear hC
  go_enter Try.func9, Try.ntmps9
  go_wp2_with fail
  refine (known_law _).mono ?_
  rintro z v0 ⟨rfl, hB⟩
  go_wp2_with fail
  go_loopw [6, 7] (fun s i wr => ∃ (k : Nat) (o : List UInt8), k ≤ len ∧ k ≤ 60 ∧ i = .int .i64 k ∧ s = .string ⟨o.toArray⟩ ∧ o.length ≤ 3 * k ∧ Hid (∃ t, decL o 0 = .ok t) ∧ Below w.heap.size w wr)
    (fun _ i _ => len - (intOf i).toNat)
  case atStart => exact ⟨0, [], Nat.zero_le _, Nat.zero_le _, rfl, rfl, Nat.le_refl _, Lib.hid ⟨[], rfl⟩, hB⟩
  case round =>
  obtain ⟨k, o, hk, hk6, rfl, rfl, hol, hdec, hB⟩ := hrel
  by_cases hlt : k < len ∧ k < 60
  · have h1 : decide ((k : Int) < (len : Int)) = true := decide_eq_true (by omega)
    have h2 : decide ((k : Int) < 60) = true := decide_eq_true (by omega)
    have hb2 : (k : Int) < (len : Int) := by omega
    obtain ⟨b, off, hp, hbl, hcell0⟩ := HC.out k (by omega)
    subst hp
    have hcell : wr.cell? ⟨b, off + k, none⟩ = some (.int .i64 (f k)) := (hB.cell (p := ⟨b, off + k, none⟩) hbl).trans hcell0
    have hr := modI_range (f k) 1000 (by omega)
    obtain ⟨m, hm⟩ := Int.eq_ofNat_of_zero_le hr.1
    rw [hm] at hr
    have HM := Lib.hid hm
    have hm1 : m < 1000 := by omega
    have hmore : Hid (∃ t, decL (o ++ tok m) 0 = .ok t) := Lib.hid (by obtain ⟨t, ht⟩ := hdec.out; exact dec_more m ht)
    have htl := tok_length m
    have hk7 : k + 1 ≤ 60 := by omega
    clear hcell0 hm hr hlt
    go_wp2_with fail
    refine (mod_any (f k) 1000 (by omega) (by omega) _).mono ?_
    rintro z w' ⟨rfl, rfl⟩
    rw [HM.out]
    by_cases h3 : m % 3 = 0
    · have htok : Hid (tok m = [37, (hexD[m / 3 % 22]?).getD 0, (hexD[m / 66 % 15]?).getD 0]) := Lib.hid (by unfold tok; rw [if_pos h3])
      have c1 : ((m : Int) % 3 == 0) = true := by rw [beq_iff_eq]; omega
      obtain ⟨a1, ha1⟩ : ∃ a, m / 3 % 22 = a := ⟨_, rfl⟩
      obtain ⟨a2, ha2⟩ : ∃ a, m / 66 % 15 = a := ⟨_, rfl⟩
      have g1 := ba_cut1 hexD a1 (by show a1 < 22; omega)
      have g2 := ba_cut1 hexD a2 (by show a2 < 22; omega)
      unfold hexD at g1 g2
      obtain ⟨x1, hx1⟩ : ∃ x, (hexD[m / 3 % 22]?).getD 0 = x := ⟨_, rfl⟩
      obtain ⟨x2, hx2⟩ : ∃ x, (hexD[m / 66 % 15]?).getD 0 = x := ⟨_, rfl⟩
      rw [hx1, hx2] at htok
      rw [ha1] at hx1
      rw [ha2] at hx2
      unfold hexD at hx1 hx2
      rw [hx1] at g1
      rw [hx2] at g2
      have s1 : ∀ w, (Op.stringOp .add ⟨o.toArray⟩ ⟨#[37]⟩).run Try.prog w = .ok (.string ⟨(o ++ [37]).toArray⟩) w := fun w => str_add o [37] (by unfold Small; simp; omega)
      have s2 : ∀ w, (Op.stringOp .add ⟨(o ++ [37]).toArray⟩ ⟨#[x1]⟩).run Try.prog w = .ok (.string ⟨(o ++ [37] ++ [x1]).toArray⟩) w := fun w => str_add (o ++ [37]) [x1] (by unfold Small; simp; omega)
      have s3 : ∀ w, (Op.stringOp .add ⟨(o ++ [37, x1]).toArray⟩ ⟨#[x2]⟩).run Try.prog w = .ok (.string ⟨(o ++ [37, x1, x2]).toArray⟩) w := fun w => (str_add (o ++ [37, x1]) [x2] (by unfold Small; simp; omega)).trans (by simp)
      obtain ⟨u, hu⟩ : ∃ u, m / 3 = u := ⟨_, rfl⟩
      obtain ⟨v, hv⟩ : ∃ v, m / 66 = v := ⟨_, rfl⟩
      rw [hu] at ha1
      rw [hv] at ha2
      have q1 : IntKind.i64.wrap ((m : Int) / 3) = (u : Int) := (IntWalk.i64_in _ (by omega)).trans (by omega)
      have q2 : IntKind.i64.wrap ((m : Int) / 66) = (v : Int) := (IntWalk.i64_in _ (by omega)).trans (by omega)
      have q3 : ((u : Int)).tmod 22 = (a1 : Int) := by rw [Int.tmod_eq_emod_of_nonneg (by omega)]; omega
      have q4 : ((v : Int)).tmod 15 = (a2 : Int) := by rw [Int.tmod_eq_emod_of_nonneg (by omega)]; omega
      have q5 : IntKind.i64.wrap ((a1 : Int) + 1) = (a1 : Int) + 1 := IntWalk.i64_in _ (by omega)
      have q6 : IntKind.i64.wrap ((a2 : Int) + 1) = (a2 : Int) + 1 := IntWalk.i64_in _ (by omega)
      have n1 : ((a1 : Int) + 1).toNat = a1 + 1 := by omega
      have n2 : ((a2 : Int) + 1).toNat = a2 + 1 := by omega
      have b1 : 0 ≤ (a1 : Int) + 1 ∧ (a1 : Int) + 1 ≤ 22 := ⟨by omega, by omega⟩
      have b2 : 0 ≤ (a2 : Int) + 1 ∧ (a2 : Int) + 1 ≤ 22 := ⟨by omega, by omega⟩
      have b3 : (a1 : Int) ≤ (a1 : Int) + 1 := by omega
      have b4 : (a2 : Int) ≤ (a2 : Int) + 1 := by omega
      clear h3 hx1 hx2 ha1 ha2 hu hv
      go_upto_region 8 with fail
      refine wp_region_noPanic ?_
      refine wp_region_held_drew (S := fun _ => True) (by kernel_rfl) ?_ (fun hHeld => ?_)
      focus ((try dsimp only); all_goals trivial)
      try simp only [Act.put, List.setIfInBounds_toArray, List.set_cons_zero, List.set_cons_succ]
      refine wpAnyH_take (i := 0) (oi := { dst := some 36, op := Go.Op.move (Go.Operand.tmp 6), type := 9, pos := "law.go:136", after := #[], guard := none }) (v := ?_) rfl (by kernel_rfl) (by kernel_rfl) (by kernel_rfl) (fun _ _ _ h => h) (Or.inl ⟨by rfl, ?_⟩) (by assumption) ?_
      rotate_left
      focus ((intro w hSw; (try dsimp only at hSw); go_simp) <;> (with_reducible rfl))
      try simp only [Act.put, List.setIfInBounds_toArray, List.set_cons_zero, List.set_cons_succ]
      refine wpAnyH_take (i := 1) (oi := { dst := some 37, op := Go.Op.binOp Go.BinOp.add 9 (Go.Operand.tmp 36) (Go.Operand.const (Go.Value.string { data := #[37] })) 9, type := 9, pos := "law.go:136", after := #[{ on := 0, ground := Go.Ground.data }], guard := none }) (v := ?_) rfl (by kernel_rfl) (by kernel_rfl) (by kernel_rfl) (fun _ _ _ h => h) (Or.inl ⟨by rfl, ?_⟩) (by assumption) ?_
      rotate_left
      focus ((intro w hSw; (try dsimp only at hSw); go_simp) <;> (with_reducible rfl))
      try simp only [Act.put, List.setIfInBounds_toArray, List.set_cons_zero, List.set_cons_succ]
      refine wpAnyH_take (i := 2) (oi := { dst := some 38, op := Go.Op.move (Go.Operand.tmp 8), type := 3, pos := "law.go:136", after := #[], guard := none }) (v := ?_) rfl (by kernel_rfl) (by kernel_rfl) (by kernel_rfl) (fun _ _ _ h => h) (Or.inl ⟨by rfl, ?_⟩) (by assumption) ?_
      rotate_left
      focus ((intro w hSw; (try dsimp only at hSw); go_simp) <;> (with_reducible rfl))
      try simp only [Act.put, List.setIfInBounds_toArray, List.set_cons_zero, List.set_cons_succ]
      refine wpAnyH_take (i := 3) (oi := { dst := some 39, op := Go.Op.binOp Go.BinOp.quo 3 (Go.Operand.tmp 38) (Go.Operand.const (Go.Value.int Go.IntKind.i64 3)) 3, type := 3, pos := "law.go:136", after := #[{ on := 2, ground := Go.Ground.data }], guard := none }) (v := ?_) rfl (by kernel_rfl) (by kernel_rfl) (by kernel_rfl) (fun _ _ _ h => h) (Or.inl ⟨by rfl, ?_⟩) (by assumption) ?_
      rotate_left
      focus ((intro w hSw; (try dsimp only at hSw); go_simp) <;> (with_reducible rfl))
      try simp only [Act.put, List.setIfInBounds_toArray, List.set_cons_zero, List.set_cons_succ]
      refine wpAnyH_take (i := 4) (oi := { dst := some 40, op := Go.Op.binOp Go.BinOp.rem 3 (Go.Operand.tmp 39) (Go.Operand.const (Go.Value.int Go.IntKind.i64 22)) 3, type := 3, pos := "law.go:136", after := #[{ on := 3, ground := Go.Ground.data }], guard := none }) (v := ?_) rfl (by kernel_rfl) (by kernel_rfl) (by kernel_rfl) (fun _ _ _ h => h) (Or.inl ⟨by rfl, ?_⟩) (by assumption) ?_
      rotate_left
      focus ((intro w hSw; (try dsimp only at hSw); go_simp) <;> (with_reducible rfl))
      try simp only [Act.put, List.setIfInBounds_toArray, List.set_cons_zero, List.set_cons_succ]
      refine wpAnyH_take (i := 5) (oi := { dst := some 41, op := Go.Op.move (Go.Operand.tmp 8), type := 3, pos := "law.go:136", after := #[], guard := none }) (v := ?_) rfl (by kernel_rfl) (by kernel_rfl) (by kernel_rfl) (fun _ _ _ h => h) (Or.inl ⟨by rfl, ?_⟩) (by assumption) ?_
      rotate_left
      focus ((intro w hSw; (try dsimp only at hSw); go_simp) <;> (with_reducible rfl))
      try simp only [Act.put, List.setIfInBounds_toArray, List.set_cons_zero, List.set_cons_succ]
      refine wpAnyH_take (i := 6) (oi := { dst := some 42, op := Go.Op.binOp Go.BinOp.quo 3 (Go.Operand.tmp 41) (Go.Operand.const (Go.Value.int Go.IntKind.i64 3)) 3, type := 3, pos := "law.go:136", after := #[{ on := 5, ground := Go.Ground.data }], guard := none }) (v := ?_) rfl (by kernel_rfl) (by kernel_rfl) (by kernel_rfl) (fun _ _ _ h => h) (Or.inl ⟨by rfl, ?_⟩) (by assumption) ?_
      rotate_left
      focus ((intro w hSw; (try dsimp only at hSw); go_simp) <;> (with_reducible rfl))
      try simp only [Act.put, List.setIfInBounds_toArray, List.set_cons_zero, List.set_cons_succ]
      refine wpAnyH_take (i := 7) (oi := { dst := some 43, op := Go.Op.binOp Go.BinOp.rem 3 (Go.Operand.tmp 42) (Go.Operand.const (Go.Value.int Go.IntKind.i64 22)) 3, type := 3, pos := "law.go:136", after := #[{ on := 6, ground := Go.Ground.data }], guard := none }) (v := ?_) rfl (by kernel_rfl) (by kernel_rfl) (by kernel_rfl) (fun _ _ _ h => h) (Or.inl ⟨by rfl, ?_⟩) (by assumption) ?_
      rotate_left
      focus ((intro w hSw; (try dsimp only at hSw); go_simp) <;> (with_reducible rfl))
      try simp only [Act.put, List.setIfInBounds_toArray, List.set_cons_zero, List.set_cons_succ]
      refine wpAnyH_take (i := 8) (oi := { dst := some 44, op := Go.Op.binOp Go.BinOp.add 3 (Go.Operand.tmp 43) (Go.Operand.const (Go.Value.int Go.IntKind.i64 1)) 3, type := 3, pos := "law.go:136", after := #[{ on := 7, ground := Go.Ground.data }], guard := none }) (v := ?_) rfl (by kernel_rfl) (by kernel_rfl) (by kernel_rfl) (fun _ _ _ h => h) (Or.inl ⟨by rfl, ?_⟩) (by assumption) ?_
      rotate_left
      focus ((intro w hSw; (try dsimp only at hSw); go_simp) <;> (with_reducible rfl))
      try simp only [Act.put, List.setIfInBounds_toArray, List.set_cons_zero, List.set_cons_succ]
      refine wpAnyH_take (i := 9) (oi := { dst := some 45, op := Go.Op.slice 9 (Go.Operand.const (Go.Value.string { data := #[48, 49, 50, 51, 52, 53, 54, 55, 56, 57, 97, 98, 99, 100, 101, 102, 65, 66, 67, 68, 69, 70] })) (some (Go.Operand.tmp 40)) (some (Go.Operand.tmp 44)) none, type := 9, pos := "law.go:136", after := #[{ on := 4, ground := Go.Ground.data }, { on := 8, ground := Go.Ground.data }], guard := none }) (v := ?_) rfl (by kernel_rfl) (by kernel_rfl) (by kernel_rfl) (fun _ _ _ h => h) (Or.inl ⟨by rfl, ?_⟩) (by assumption) ?_
      rotate_left
      focus ((intro w hSw; (try dsimp only at hSw); go_simp) <;> (with_reducible rfl))
      try simp only [Act.put, List.setIfInBounds_toArray, List.set_cons_zero, List.set_cons_succ]
      refine wpAnyH_take (i := 10) (oi := { dst := some 46, op := Go.Op.binOp Go.BinOp.add 9 (Go.Operand.tmp 37) (Go.Operand.tmp 45) 9, type := 9, pos := "law.go:136", after := #[{ on := 1, ground := Go.Ground.data }, { on := 9, ground := Go.Ground.data }], guard := none }) (v := ?_) rfl (by kernel_rfl) (by kernel_rfl) (by kernel_rfl) (fun _ _ _ h => h) (Or.inl ⟨by rfl, ?_⟩) (by assumption) ?_
      rotate_left
      focus ((intro w hSw; (try dsimp only at hSw); go_simp) <;> (with_reducible rfl))
      try simp only [Act.put, List.setIfInBounds_toArray, List.set_cons_zero, List.set_cons_succ]
      refine wpAnyH_take (i := 11) (oi := { dst := some 47, op := Go.Op.move (Go.Operand.tmp 8), type := 3, pos := "law.go:136", after := #[], guard := none }) (v := ?_) rfl (by kernel_rfl) (by kernel_rfl) (by kernel_rfl) (fun _ _ _ h => h) (Or.inl ⟨by rfl, ?_⟩) (by assumption) ?_
      rotate_left
      focus ((intro w hSw; (try dsimp only at hSw); go_simp) <;> (with_reducible rfl))
      try simp only [Act.put, List.setIfInBounds_toArray, List.set_cons_zero, List.set_cons_succ]
      refine wpAnyH_take (i := 12) (oi := { dst := some 48, op := Go.Op.binOp Go.BinOp.quo 3 (Go.Operand.tmp 47) (Go.Operand.const (Go.Value.int Go.IntKind.i64 66)) 3, type := 3, pos := "law.go:136", after := #[{ on := 11, ground := Go.Ground.data }], guard := none }) (v := ?_) rfl (by kernel_rfl) (by kernel_rfl) (by kernel_rfl) (fun _ _ _ h => h) (Or.inl ⟨by rfl, ?_⟩) (by assumption) ?_
      rotate_left
      focus ((intro w hSw; (try dsimp only at hSw); go_simp) <;> (with_reducible rfl))
      try simp only [Act.put, List.setIfInBounds_toArray, List.set_cons_zero, List.set_cons_succ]
      refine wpAnyH_take (i := 13) (oi := { dst := some 49, op := Go.Op.binOp Go.BinOp.rem 3 (Go.Operand.tmp 48) (Go.Operand.const (Go.Value.int Go.IntKind.i64 15)) 3, type := 3, pos := "law.go:136", after := #[{ on := 12, ground := Go.Ground.data }], guard := none }) (v := ?_) rfl (by kernel_rfl) (by kernel_rfl) (by kernel_rfl) (fun _ _ _ h => h) (Or.inl ⟨by rfl, ?_⟩) (by assumption) ?_
      rotate_left
      focus ((intro w hSw; (try dsimp only at hSw); go_simp) <;> (with_reducible rfl))
      try simp only [Act.put, List.setIfInBounds_toArray, List.set_cons_zero, List.set_cons_succ]
      refine wpAnyH_take (i := 14) (oi := { dst := some 50, op := Go.Op.move (Go.Operand.tmp 8), type := 3, pos := "law.go:136", after := #[], guard := none }) (v := ?_) rfl (by kernel_rfl) (by kernel_rfl) (by kernel_rfl) (fun _ _ _ h => h) (Or.inl ⟨by rfl, ?_⟩) (by assumption) ?_
      rotate_left
      focus ((intro w hSw; (try dsimp only at hSw); go_simp) <;> (with_reducible rfl))
      try simp only [Act.put, List.setIfInBounds_toArray, List.set_cons_zero, List.set_cons_succ]
      refine wpAnyH_take (i := 15) (oi := { dst := some 51, op := Go.Op.binOp Go.BinOp.quo 3 (Go.Operand.tmp 50) (Go.Operand.const (Go.Value.int Go.IntKind.i64 66)) 3, type := 3, pos := "law.go:136", after := #[{ on := 14, ground := Go.Ground.data }], guard := none }) (v := ?_) rfl (by kernel_rfl) (by kernel_rfl) (by kernel_rfl) (fun _ _ _ h => h) (Or.inl ⟨by rfl, ?_⟩) (by assumption) ?_
      rotate_left
      focus ((intro w hSw; (try dsimp only at hSw); go_simp) <;> (with_reducible rfl))
      try simp only [Act.put, List.setIfInBounds_toArray, List.set_cons_zero, List.set_cons_succ]
      refine wpAnyH_take (i := 16) (oi := { dst := some 52, op := Go.Op.binOp Go.BinOp.rem 3 (Go.Operand.tmp 51) (Go.Operand.const (Go.Value.int Go.IntKind.i64 15)) 3, type := 3, pos := "law.go:136", after := #[{ on := 15, ground := Go.Ground.data }], guard := none }) (v := ?_) rfl (by kernel_rfl) (by kernel_rfl) (by kernel_rfl) (fun _ _ _ h => h) (Or.inl ⟨by rfl, ?_⟩) (by assumption) ?_
      rotate_left
      focus ((intro w hSw; (try dsimp only at hSw); go_simp) <;> (with_reducible rfl))
      try simp only [Act.put, List.setIfInBounds_toArray, List.set_cons_zero, List.set_cons_succ]
      refine wpAnyH_take (i := 17) (oi := { dst := some 53, op := Go.Op.binOp Go.BinOp.add 3 (Go.Operand.tmp 52) (Go.Operand.const (Go.Value.int Go.IntKind.i64 1)) 3, type := 3, pos := "law.go:136", after := #[{ on := 16, ground := Go.Ground.data }], guard := none }) (v := ?_) rfl (by kernel_rfl) (by kernel_rfl) (by kernel_rfl) (fun _ _ _ h => h) (Or.inl ⟨by rfl, ?_⟩) (by assumption) ?_
      rotate_left
      focus ((intro w hSw; (try dsimp only at hSw); go_simp) <;> (with_reducible rfl))
      try simp only [Act.put, List.setIfInBounds_toArray, List.set_cons_zero, List.set_cons_succ]
      refine wpAnyH_take (i := 18) (oi := { dst := some 54, op := Go.Op.slice 9 (Go.Operand.const (Go.Value.string { data := #[48, 49, 50, 51, 52, 53, 54, 55, 56, 57, 97, 98, 99, 100, 101, 102, 65, 66, 67, 68, 69, 70] })) (some (Go.Operand.tmp 49)) (some (Go.Operand.tmp 53)) none, type := 9, pos := "law.go:136", after := #[{ on := 13, ground := Go.Ground.data }, { on := 17, ground := Go.Ground.data }], guard := none }) (v := ?_) rfl (by kernel_rfl) (by kernel_rfl) (by kernel_rfl) (fun _ _ _ h => h) (Or.inl ⟨by rfl, ?_⟩) (by assumption) ?_
      rotate_left
      focus ((intro w hSw; (try dsimp only at hSw); go_simp) <;> (with_reducible rfl))
      try simp only [Act.put, List.setIfInBounds_toArray, List.set_cons_zero, List.set_cons_succ]
      refine wpAnyH_take (i := 19) (oi := { dst := some 55, op := Go.Op.binOp Go.BinOp.add 9 (Go.Operand.tmp 46) (Go.Operand.tmp 54) 9, type := 9, pos := "law.go:136", after := #[{ on := 10, ground := Go.Ground.data }, { on := 18, ground := Go.Ground.data }], guard := none }) (v := ?_) rfl (by kernel_rfl) (by kernel_rfl) (by kernel_rfl) (fun _ _ _ h => h) (Or.inl ⟨by rfl, ?_⟩) (by assumption) ?_
      rotate_left
      focus ((intro w hSw; (try dsimp only at hSw); go_simp) <;> (with_reducible rfl))
      try simp only [Act.put, List.setIfInBounds_toArray, List.set_cons_zero, List.set_cons_succ]
      refine wpAnyH_take (i := 20) (oi := { dst := some 6, op := Go.Op.assign (Go.Operand.tmp 55), type := 9, pos := "law.go:136", after := #[{ on := 19, ground := Go.Ground.data }, { on := 0, ground := Go.Ground.phase }, { on := 1, ground := Go.Ground.phase }, { on := 2, ground := Go.Ground.phase }, { on := 3, ground := Go.Ground.phase }, { on := 4, ground := Go.Ground.phase }, { on := 5, ground := Go.Ground.phase }, { on := 6, ground := Go.Ground.phase }, { on := 7, ground := Go.Ground.phase }, { on := 8, ground := Go.Ground.phase }, { on := 9, ground := Go.Ground.phase }, { on := 10, ground := Go.Ground.phase }, { on := 11, ground := Go.Ground.phase }, { on := 12, ground := Go.Ground.phase }, { on := 13, ground := Go.Ground.phase }, { on := 14, ground := Go.Ground.phase }, { on := 15, ground := Go.Ground.phase }, { on := 16, ground := Go.Ground.phase }, { on := 17, ground := Go.Ground.phase }, { on := 18, ground := Go.Ground.phase }, { on := 19, ground := Go.Ground.phase }], guard := none }) (v := ?_) rfl (by kernel_rfl) (by kernel_rfl) (by kernel_rfl) (fun _ _ _ h => h) (Or.inl ⟨by rfl, ?_⟩) (by assumption) ?_
      rotate_left
      focus ((intro w hSw; (try dsimp only at hSw); go_simp) <;> (with_reducible rfl))
      try simp only [Act.put, List.setIfInBounds_toArray, List.set_cons_zero, List.set_cons_succ]
      refine wpAnyH_done (by kernel_rfl) ?_ _
      refine NoPanic.normal ?_
      clear hHeld
      go_wp2_with fail
      go_roundw
      case rel => exact ⟨k + 1, o ++ tok m, by omega, hk7, by go_num, by rw [htok.out], by rw [List.length_append]; omega, hmore, hB.drew⟩
      case measure => simp [intOf]; omega
    · have htok : Hid (tok m = [(othD[m / 3 % 6]?).getD 0]) := Lib.hid (by unfold tok; rw [if_neg h3])
      have c1 : ((m : Int) % 3 == 0) = false := by rw [beq_eq_false_iff_ne]; omega
      obtain ⟨a1, ha1⟩ : ∃ a, m / 3 % 6 = a := ⟨_, rfl⟩
      have g1 := ba_cut1 othD a1 (by show a1 < 6; omega)
      unfold othD at g1
      obtain ⟨x1, hx1⟩ : ∃ x, (othD[m / 3 % 6]?).getD 0 = x := ⟨_, rfl⟩
      rw [hx1] at htok
      rw [ha1] at hx1
      unfold othD at hx1
      rw [hx1] at g1
      have s1 : ∀ w, (Op.stringOp .add ⟨o.toArray⟩ ⟨#[x1]⟩).run Try.prog w = .ok (.string ⟨(o ++ [x1]).toArray⟩) w := fun w => str_add o [x1] (by unfold Small; simp; omega)
      obtain ⟨u, hu⟩ : ∃ u, m / 3 = u := ⟨_, rfl⟩
      rw [hu] at ha1
      have q1 : (m : Int) / 3 = (u : Int) := by omega
      have q3 : (u : Int) % 6 = (a1 : Int) := by omega
      have n1 : ((a1 : Int) + 1).toNat = a1 + 1 := by omega
      have b1 : 0 ≤ (a1 : Int) + 1 ∧ (a1 : Int) + 1 ≤ 6 := ⟨by omega, by omega⟩
      have b3 : (a1 : Int) ≤ (a1 : Int) + 1 := by omega
      clear h3 hx1 ha1 hu
      go_wp2_with fail
      go_roundw
      case rel => exact ⟨k + 1, o ++ tok m, by omega, hk7, by go_num, by rw [htok.out], by rw [List.length_append]; omega, hmore, hB⟩
      case measure => simp [intOf]; omega
  · obtain ⟨t, hd⟩ := hdec.out
    have hr := modI_range n ((o.length : Int) + 1) (by omega)
    obtain ⟨m, hm⟩ := Int.eq_ofNat_of_zero_le hr.1
    rw [hm] at hr
    have HM := Lib.hid hm
    have hmo : m ≤ o.length := by omega
    have ho2 : o.length < 1000000 := by omega
    obtain ⟨j, hj, hc, hcm, hm2, hdC, hend⟩ := cut_all hmo hd
    have hol2 : offF o j ≤ o.length := by omega
    obtain ⟨C, hCe⟩ : ∃ C, o.take (offF o j) = C := ⟨_, rfl⟩
    obtain ⟨D, hDe⟩ : ∃ D, t.take j = D := ⟨_, rfl⟩
    have hCl : C.length = offF o j := by rw [← hCe, List.length_take]; omega
    have hDl : D.length = j := by rw [← hDe, List.length_take]; omega
    rw [hCe, hDe] at hdC
    have HD1 : Hid (decV (decL o 0) = .tuple #[.string ⟨t.toArray⟩, .agg #[.int .i64 0, .int .i64 0]]) := Lib.hid (by rw [hd]; rfl)
    have HD2 : Hid (decV (decL C 0) = .tuple #[.string ⟨D.toArray⟩, .agg #[.int .i64 0, .int .i64 0]]) := Lib.hid (by rw [hdC]; rfl)
    have HK : Hid (cutV o (m : Int) = .tuple #[.string ⟨C.toArray⟩, .int .i64 0]) := Lib.hid (by rw [cutV_eq (by omega) hd, hc, hCe])
    have HO : Hid (offV o (D.length : Int) = .tuple #[.int .i64 (C.length : Nat), .int .i64 0]) := Lib.hid (by
      have ha : askedN o (D.length : Int) = 0 := by unfold askedN; rw [if_neg (by omega), hd]
      unfold offV
      rw [if_pos ha, hd]
      show (if (t.length : Int) < (D.length : Int) then _ else _) = _
      rw [if_neg (by omega), Int.toNat_natCast, hCl, hDl])
    have hCC : o.take C.length = C := by rw [hCl, hCe]
    have hDD : t.take D.length = D := by rw [hDl, hDe]
    have hl1 : C.length ≤ o.length := by omega
    have hl2 : D.length ≤ t.length := by omega
    have hl3 : (C.length : Int) ≤ (o.length : Int) := by omega
    have hl4 : (D.length : Int) ≤ (t.length : Int) := by omega
    have d1 : decide ((m : Int) < (C.length : Int)) = false := decide_eq_false (by omega)
    have d2 : decide (m < C.length) = false := decide_eq_false (by omega)
    have d3 : decide ((2 : Int) < (m : Int) - (C.length : Int)) = false := decide_eq_false (by omega)
    have d4 : decide ((t.length : Int) < (D.length : Int)) = false := decide_eq_false (by omega)
    have d5 : decide (t.length < D.length) = false := decide_eq_false (by omega)
    have hC1 : C.length < 1000000 := by omega
    have htl := decL_length hd
    have q0 : IntKind.i64.wrap ((o.length : Int) + 1) = (o.length : Int) + 1 := IntWalk.i64_in _ (by omega)
    have hfin : (m = C.length) ∨ (m ≠ C.length ∧ ∃ h : C.length < o.length, o[C.length] = 37) := by
      by_cases e : m = C.length
      · exact Or.inl e
      · right
        rcases hend with h | ⟨h, h'⟩
        · omega
        · refine ⟨e, by omega, ?_⟩
          rw [← hCl, List.getElem?_eq_getElem (by omega)] at h'
          injection h'
    clear hm hc hcm hm2 hdC hend hol2 hCe hDe hCl hDl hd hj hr
    have hko : (k < len ∧ k = 60) ∨ ¬ k < len := by omega
    rcases hko with ⟨hk1, hk2⟩ | hk1
    all_goals
      first | have h1 : decide ((k : Int) < (len : Int)) = true := decide_eq_true (by omega) | have h1 : decide ((k : Int) < (len : Int)) = false := decide_eq_false (by omega)
      first | subst hk2 | skip
      rcases hfin with hm | ⟨hm, hco, h37⟩
      all_goals
        first | (have e1 : ((m : Int) - (C.length : Int) == 0) = true := by rw [beq_iff_eq]; omega) | (have e1 : ((m : Int) - (C.length : Int) == 0) = false := by rw [beq_eq_false_iff_ne]; omega)
        clear hm
        go_wp2_with fail
        refine (mod_any n ((o.length : Int) + 1) (by omega) (by omega) _).mono ?_
        rintro z w' ⟨rfl, rfl⟩
        rw [HM.out]
        go_wp2_with fail
        refine (decode_any o ho2 _).mono ?_
        rintro y v1 ⟨rfl, hb⟩
        rw [HD1.out]
        have hB := hB.trans (hb.mono hB.size)
        clear hb
        have F1 : FBlk (v1.alloc (.cells #[.int .i64 0, .int .i64 0] 28)) v1.heap.size 0 0 := heap_alloc_new v1 _
        have hB := hB.alloc hB.size (.cells #[.int .i64 0, .int .i64 0] 28)
        go_wp2_with fail
        obtain ⟨A1, hA1⟩ : ∃ A, v1.heap.size = A := ⟨_, rfl⟩
        obtain ⟨W1, hW1⟩ : ∃ W, v1.alloc (.cells #[.int .i64 0, .int .i64 0] 28) = W := ⟨_, rfl⟩
        rw [hA1] at F1 ⊢
        rw [hW1] at hB F1  ⊢
        clear hA1 hW1
        refine (cut_any o ho2 (m : Int) _).mono ?_
        rintro y v2 ⟨rfl, hb⟩
        rw [HK.out]
        have F1 : FBlk v2 A1 0 0 := (hb.block _ F1.lt).trans F1
        have hB := hB.trans (hb.mono hB.size)
        clear hb
        go_wp2_with fail
        refine (decode_any C hC1 _).mono ?_
        rintro y v3 ⟨rfl, hb⟩
        rw [HD2.out]
        have F1 : FBlk v3 A1 0 0 := (hb.block _ F1.lt).trans F1
        have hB := hB.trans (hb.mono hB.size)
        clear hb
        have F2 : FBlk (v3.alloc (.cells #[.int .i64 0, .int .i64 0] 28)) v3.heap.size 0 0 := heap_alloc_new v3 _
        have F1 := F1.alloc (.cells #[.int .i64 0, .int .i64 0] 28)
        have hB := hB.alloc hB.size (.cells #[.int .i64 0, .int .i64 0] 28)
        obtain ⟨xF10, xF11, -, -⟩ := F1.cells
        go_wp2_with fail
        obtain ⟨A3, hA3⟩ : ∃ A, v3.heap.size = A := ⟨_, rfl⟩
        obtain ⟨W3, hW3⟩ : ∃ W, v3.alloc (.cells #[.int .i64 0, .int .i64 0] 28) = W := ⟨_, rfl⟩
        rw [hA3] at F2 ⊢
        rw [hW3] at hB F2 F1 ⊢
        clear hA3 hW3
        clear xF10 xF11
        refine (offset_any o ho2 (D.length : Int) _).mono ?_
        rintro y v4 ⟨rfl, hb⟩
        rw [HO.out]
        have F1 : FBlk v4 A1 0 0 := (hb.block _ F1.lt).trans F1
        have F2 : FBlk v4 A3 0 0 := (hb.block _ F2.lt).trans F2
        have hB := hB.trans (hb.mono hB.size)
        clear hb
        go_wp2_with fail
        go_ret
        exact ⟨rfl, hB⟩
end Go.Proofs.Ytheajdgdllobbaa
