/-
  The reference's write, DecText and HexText for every number.
-/
import Derived.Test.YtekbahpobhjobaaDoorNRef1
import Derived.Laws.Entries
import Derived.Below
import Derived.Deep.RegionHeld3
import Derived.Deep.DeepCutAuto
import Derived.BigQuiet
import Derived.Deep.QuietTactic
namespace Go.Proofs.YtekbahpobhjobaaDoor
open Go.RowKit
theorem ba_cut1 (l : List UInt8) (i : Nat) (h : i < l.length) : (ByteArray.mk l.toArray).extract i (i + 1) = ⟨[(l[i]?).getD 0].toArray⟩ := by
  apply ByteArray.ext
  rw [ByteArray.data_extract]
  rw [List.extract_toArray, List.extract_eq_take_drop, Nat.add_sub_cancel_left, List.drop_eq_getElem_cons h, List.getElem?_eq_getElem h]
  rfl
theorem ba_append (a b : List UInt8) : ByteArray.mk a.toArray ++ ByteArray.mk b.toArray = ⟨(a ++ b).toArray⟩ := by
  apply ByteArray.ext
  rw [ByteArray.data_append]
  simp
/-- A length that a string may have. -/
def Small (n : Nat) : Prop := n ≤ 9223372036854775807
theorem str_add {P : Program} {w : World} (a b : List UInt8) (h : Small (a.length + b.length)) : (Op.stringOp .add ⟨a.toArray⟩ ⟨b.toArray⟩).run P w = .ok (.string ⟨(a ++ b).toArray⟩) w := by
  rw [← ba_append]
  exact run_string_add_sum _ _ _ h
set_option maxHeartbeats 2000000 in
theorem refWrite_any (b : Nat) (hb : 2 ≤ b ∧ b ≤ 16) : ∀ (n : Nat), n < U64 → ∀ w : World,
    Calls Tryd.prog 37 #[.int .u64 (n : Int), .int .u64 (b : Int)] w fun e w' => e = .returned (.string ⟨(digL b n).toArray⟩) ∧ Below w.heap.size w w' := by
  intro n
  induction n using Nat.strongRecOn with
  | ind n ih =>
  intro hn w
  have IH := Lib.hid (fun m hm => ih m hm)
  have hst := digL_step hb.1 hn
  have hlen := digF_length b 64 (n / b)
  obtain ⟨a, ha⟩ : ∃ a, n % b = a := ⟨_, rfl⟩
  have ha16 : a < b := by rw [← ha]; exact Nat.mod_lt _ (by omega)
  rw [ha] at hst
  have g1 := ba_cut1 digU a (by show a < 16; omega)
  obtain ⟨x, hx⟩ : ∃ x, digC a = x := ⟨_, rfl⟩
  have hx2 : (digU[a]?).getD 0 = x := hx
  rw [hx2] at g1
  rw [hx] at hst
  unfold digU at g1
  have hb0 : ((b : Int) == 0) = false := by rw [beq_eq_false_iff_ne]; omega
  have hb1 : (b == 0) = false := by rw [beq_eq_false_iff_ne]; omega
  have hb3 : ¬ b = 0 := by omega
  have hd : n / b < U64 := Nat.lt_of_le_of_lt (Nat.div_le_self _ _) hn
  obtain ⟨c, hc⟩ : ∃ c, n / b = c := ⟨_, rfl⟩
  rw [hc] at hst hd hlen
  have q1 : ((n : Int)).tmod (b : Int) = (a : Int) := by rw [Int.tmod_eq_emod_of_nonneg (by omega), ← Int.natCast_emod, ha]
  have q2 : IntKind.u64.wrap ((a : Int) + 1) = (a : Int) + 1 := wrapU' (y := a + 1) (by push_cast; rfl) (by unfold U64; omega)
  have n1 : ((a : Int) + 1).toNat = a + 1 := by omega
  have b1 : 0 ≤ (a : Int) + 1 ∧ (a : Int) + 1 ≤ 16 := ⟨by omega, by omega⟩
  have b3 : (a : Int) ≤ (a : Int) + 1 := by omega
  have HST := Lib.hid hst
  have HLT : Hid (c < n ∨ n < b) := Lib.hid (by
    by_cases h : n < b
    · exact Or.inr h
    · left
      rw [← hc]
      exact Nat.div_lt_self (by omega) (by omega))
  have HC := Lib.hid hc
  clear hst hx hx2 ha ih hc
  go_enter Tryd.func37, Tryd.ntmps37
  go_upto_region 1 with fail
  refine wp_region_noPanic ?_
  refine wp_region_held_drew (S := fun _ => True) (by kernel_rfl) ?_ (fun hHeld => ?_)
  focus ((try dsimp only); all_goals trivial)
  try simp only [Act.put, List.setIfInBounds_toArray, List.set_cons_zero, List.set_cons_succ]
  refine wpAnyH_take (i := 0) (oi := { dst := some 6, op := Go.Op.move (Go.Operand.tmp 0), type := 23, pos := "ref.go:71", after := #[], guard := none }) (v := ?_) rfl (by kernel_rfl) (by kernel_rfl) (by kernel_rfl) (fun _ _ _ h => h) (Or.inl ⟨by rfl, ?_⟩) (by assumption) ?_
  rotate_left
  focus ((intro w hSw; (try dsimp only at hSw); go_simp) <;> (with_reducible rfl))
  try simp only [Act.put, List.setIfInBounds_toArray, List.set_cons_zero, List.set_cons_succ]
  refine wpAnyH_take (i := 1) (oi := { dst := some 7, op := Go.Op.move (Go.Operand.tmp 1), type := 23, pos := "ref.go:71", after := #[], guard := none }) (v := ?_) rfl (by kernel_rfl) (by kernel_rfl) (by kernel_rfl) (fun _ _ _ h => h) (Or.inl ⟨by rfl, ?_⟩) (by assumption) ?_
  rotate_left
  focus ((intro w hSw; (try dsimp only at hSw); go_simp) <;> (with_reducible rfl))
  try simp only [Act.put, List.setIfInBounds_toArray, List.set_cons_zero, List.set_cons_succ]
  refine wpAnyH_take (i := 2) (oi := { dst := some 8, op := Go.Op.binOp Go.BinOp.rem 23 (Go.Operand.tmp 6) (Go.Operand.tmp 7) 23, type := 23, pos := "ref.go:71", after := #[{ on := 0, ground := Go.Ground.data }, { on := 1, ground := Go.Ground.data }], guard := none }) (v := ?_) rfl (by kernel_rfl) (by kernel_rfl) (by kernel_rfl) (fun _ _ _ h => h) (Or.inl ⟨by rfl, ?_⟩) (by assumption) ?_
  rotate_left
  focus ((intro w hSw; (try dsimp only at hSw); go_simp) <;> (with_reducible rfl))
  try simp only [Act.put, List.setIfInBounds_toArray, List.set_cons_zero, List.set_cons_succ]
  refine wpAnyH_take (i := 3) (oi := { dst := some 9, op := Go.Op.move (Go.Operand.tmp 0), type := 23, pos := "ref.go:71", after := #[], guard := none }) (v := ?_) rfl (by kernel_rfl) (by kernel_rfl) (by kernel_rfl) (fun _ _ _ h => h) (Or.inl ⟨by rfl, ?_⟩) (by assumption) ?_
  rotate_left
  focus ((intro w hSw; (try dsimp only at hSw); go_simp) <;> (with_reducible rfl))
  try simp only [Act.put, List.setIfInBounds_toArray, List.set_cons_zero, List.set_cons_succ]
  refine wpAnyH_take (i := 4) (oi := { dst := some 10, op := Go.Op.move (Go.Operand.tmp 1), type := 23, pos := "ref.go:71", after := #[], guard := none }) (v := ?_) rfl (by kernel_rfl) (by kernel_rfl) (by kernel_rfl) (fun _ _ _ h => h) (Or.inl ⟨by rfl, ?_⟩) (by assumption) ?_
  rotate_left
  focus ((intro w hSw; (try dsimp only at hSw); go_simp) <;> (with_reducible rfl))
  try simp only [Act.put, List.setIfInBounds_toArray, List.set_cons_zero, List.set_cons_succ]
  refine wpAnyH_take (i := 5) (oi := { dst := some 11, op := Go.Op.binOp Go.BinOp.rem 23 (Go.Operand.tmp 9) (Go.Operand.tmp 10) 23, type := 23, pos := "ref.go:71", after := #[{ on := 3, ground := Go.Ground.data }, { on := 4, ground := Go.Ground.data }], guard := none }) (v := ?_) rfl (by kernel_rfl) (by kernel_rfl) (by kernel_rfl) (fun _ _ _ h => h) (Or.inl ⟨by rfl, ?_⟩) (by assumption) ?_
  rotate_left
  focus ((intro w hSw; (try dsimp only at hSw); go_simp) <;> (with_reducible rfl))
  try simp only [Act.put, List.setIfInBounds_toArray, List.set_cons_zero, List.set_cons_succ]
  refine wpAnyH_take (i := 6) (oi := { dst := some 12, op := Go.Op.binOp Go.BinOp.add 23 (Go.Operand.tmp 11) (Go.Operand.const (Go.Value.int Go.IntKind.u64 1)) 23, type := 23, pos := "ref.go:71", after := #[{ on := 5, ground := Go.Ground.data }], guard := none }) (v := ?_) rfl (by kernel_rfl) (by kernel_rfl) (by kernel_rfl) (fun _ _ _ h => h) (Or.inl ⟨by rfl, ?_⟩) (by assumption) ?_
  rotate_left
  focus ((intro w hSw; (try dsimp only at hSw); go_simp) <;> (with_reducible rfl))
  try simp only [Act.put, List.setIfInBounds_toArray, List.set_cons_zero, List.set_cons_succ]
  refine wpAnyH_take (i := 7) (oi := { dst := some 13, op := Go.Op.slice 9 (Go.Operand.const (Go.Value.string { data := #[48, 49, 50, 51, 52, 53, 54, 55, 56, 57, 97, 98, 99, 100, 101, 102] })) (some (Go.Operand.tmp 8)) (some (Go.Operand.tmp 12)) none, type := 9, pos := "ref.go:71", after := #[{ on := 2, ground := Go.Ground.data }, { on := 6, ground := Go.Ground.data }], guard := none }) (v := ?_) rfl (by kernel_rfl) (by kernel_rfl) (by kernel_rfl) (fun _ _ _ h => h) (Or.inl ⟨by rfl, ?_⟩) (by assumption) ?_
  rotate_left
  focus ((intro w hSw; (try dsimp only at hSw); go_simp) <;> (with_reducible rfl))
  try simp only [Act.put, List.setIfInBounds_toArray, List.set_cons_zero, List.set_cons_succ]
  refine wpAnyH_take (i := 8) (oi := { dst := some 5, op := Go.Op.assign (Go.Operand.tmp 13), type := 9, pos := "ref.go:71", after := #[{ on := 7, ground := Go.Ground.data }, { on := 0, ground := Go.Ground.phase }, { on := 1, ground := Go.Ground.phase }, { on := 2, ground := Go.Ground.phase }, { on := 3, ground := Go.Ground.phase }, { on := 4, ground := Go.Ground.phase }, { on := 5, ground := Go.Ground.phase }, { on := 6, ground := Go.Ground.phase }, { on := 7, ground := Go.Ground.phase }], guard := none }) (v := ?_) rfl (by kernel_rfl) (by kernel_rfl) (by kernel_rfl) (fun _ _ _ h => h) (Or.inl ⟨by rfl, ?_⟩) (by assumption) ?_
  rotate_left
  focus ((intro w hSw; (try dsimp only at hSw); go_simp) <;> (with_reducible rfl))
  try simp only [Act.put, List.setIfInBounds_toArray, List.set_cons_zero, List.set_cons_succ]
  refine wpAnyH_done (by kernel_rfl) ?_ _
  refine NoPanic.normal ?_
  clear hHeld
  by_cases hlt : n < b
  · have d1 : decide ((n : Int) < (b : Int)) = true := decide_eq_true (by omega)
    have d2 : decide (n < b) = true := decide_eq_true hlt
    have hres : Hid (digL b n = [x]) := Lib.hid (by rw [HST.out, if_pos hlt])
    go_wp2_with fail
    go_ret
    exact ⟨by rw [hres.out]; rfl, (Below.refl _ w).drew⟩
  · have d1 : decide ((n : Int) < (b : Int)) = false := decide_eq_false (by omega)
    have d2 : decide (n < b) = false := decide_eq_false hlt
    have hres : Hid (digL b n = digL b c ++ [x]) := Lib.hid (by rw [HST.out, if_neg hlt])
    have hcn : c < n := HLT.out.resolve_right hlt
    have q3 : IntKind.u64.wrap (c : Int) = (c : Int) := wrapU hd
    have q4 : (n : Int) / (b : Int) = (c : Int) := by rw [← Int.natCast_ediv, HC.out]
    obtain ⟨D, hD⟩ : ∃ D, Hid (digL b c = D) := ⟨_, Lib.hid rfl⟩
    have hDl : D.length ≤ 65 := by rw [← hD.out]; exact hlen.2
    have s1 : ∀ w, (Op.stringOp .add ⟨D.toArray⟩ ⟨#[x]⟩).run Tryd.prog w = .ok (.string ⟨(D ++ [x]).toArray⟩) w := fun w => str_add D [x] (by unfold Small; simp; omega)
    clear hlen
    go_wp2_with fail
    refine (IH.out c hcn hd _).mono ?_
    rintro e w1 ⟨rfl, hB⟩
    rw [hD.out]
    go_wp2_with fail
    go_ret
    exact ⟨by rw [hres.out, hD.out]; rfl, ((Below.refl _ w).drew).trans hB⟩
set_option maxHeartbeats 1000000 in
theorem refDecText_any (n : Nat) (hn : n < U64) (w : World) :
    Calls Tryd.prog 23 #[.int .u64 (n : Int)] w fun e w' => e = .returned (.string ⟨(digL 10 n).toArray⟩) ∧ Below w.heap.size w w' := by
  go_enter Tryd.func23, Tryd.ntmps23
  go_wp2_with fail
  refine (refWrite_any 10 (by omega) n hn _).mono ?_
  rintro e w' ⟨rfl, hb⟩
  go_wp2_with fail
  go_ret
  exact ⟨rfl, hb⟩
set_option maxHeartbeats 1000000 in
theorem refHexText_any (n : Nat) (hn : n < U64) (w : World) :
    Calls Tryd.prog 25 #[.int .u64 (n : Int)] w fun e w' => e = .returned (.string ⟨(digL 16 n).toArray⟩) ∧ Below w.heap.size w w' := by
  go_enter Tryd.func25, Tryd.ntmps25
  go_wp2_with fail
  refine (refWrite_any 16 (by omega) n hn _).mono ?_
  rintro e w' ⟨rfl, hb⟩
  go_wp2_with fail
  go_ret
  exact ⟨rfl, hb⟩
end Go.Proofs.YtekbahpobhjobaaDoor
