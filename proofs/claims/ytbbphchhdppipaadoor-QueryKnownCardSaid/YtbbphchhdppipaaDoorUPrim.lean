/-
  percent.value for every slice of bytes, output.escape for one byte.
-/
import Derived.Test.YtbbphchhdppipaaDoorULay
import Derived.Test.YtbbphchhdppipaaDoorUPBuild
import Derived.Test.YtbbphchhdppipaaDoorUEnc0
namespace Go.Proofs.YtbbphchhdppipaaDoor
open Go.RowKit
attribute [local go_sem] ba_get
def dig1 (y : Nat) : Nat := if 97 ≤ y ∧ y ≤ 102 then y - 32 else y
theorem dig_table : ∀ y : Fin 256, Lib.indexByte [48, 49, 50, 51, 52, 53, 54, 55, 56, 57, 65, 66, 67, 68, 69, 70] (dig1 y.val).toUInt8 = valI y.val := by decide +kernel
theorem dig_at (y : Nat) (hy : y < 256) : Lib.indexByte (ByteArray.mk #[48, 49, 50, 51, 52, 53, 54, 55, 56, 57, 65, 66, 67, 68, 69, 70]).data.toList (dig1 y).toUInt8 = valI y := dig_table ⟨y, hy⟩
def valTo (f : Nat → Nat) : Nat → Nat
  | 0 => 0
  | k + 1 => (16 * valTo f k + (hexP (f k)).1) % 256
def allHex (f : Nat → Nat) : Nat → Bool
  | 0 => true
  | k + 1 => allHex f k && (hexP (f k)).2
theorem allHex_no {f : Nat → Nat} {j : Nat} (h : (hexP (f j)).2 = false) : ∀ k, j < k → allHex f k = false
  | 0, hk => by omega
  | k + 1, hk => by
    by_cases e : j = k
    · subst e; rw [allHex, h, Bool.and_false]
    · rw [allHex, allHex_no h k (by omega)]; rfl
def valR (f : Nat → Nat) (n : Nat) : Value := if allHex f n = true then .tuple #[.int .u8 (valTo f n : Nat), .bool true] else .tuple #[.int .u8 0, .bool false]
theorem valTo_lt (f : Nat → Nat) : ∀ k, valTo f k < 256
  | 0 => by simp [valTo]
  | k + 1 => Nat.mod_lt _ (by omega)
set_option maxHeartbeats 1000000 in
theorem pvalue_any (b off len cap : Nat) (f : Nat → Nat) (hb : ∀ j, j < len → f j < 256) (hlen : len ≤ 1000) (w : World) (hc : ∀ j, j < len → w.cell? ⟨b, off + j, none⟩ = some (.int .u8 (f j : Int))) :
    Calls Tryd.prog 60 #[.slice (some ⟨b, off, none⟩) len cap] w fun e w' => e = .returned (valR f len) ∧ w = w' := by
  have HC : Hid (∀ j, j < len → w.cell? ⟨b, off + j, none⟩ = some (.int .u8 (f j : Int))) := Lib.hid hc
  have HB : Hid (∀ j, j < len → f j < 256) := Lib.hid hb
  clear hc hb
  go_enter Tryd.func60, Tryd.ntmps60
  go_wp2
  go_loop [4, 10] (fun v i => ∃ k : Nat, k ≤ len ∧ i = .int .i64 k ∧ v = .int .u8 (valTo f k : Nat) ∧ Hid (allHex f k = true)) (fun _ i => len - (intOf i).toNat)
  case atStart => exact ⟨0, Nat.zero_le _, rfl, rfl, Lib.hid rfl⟩
  case round =>
    obtain ⟨k, hk, rfl, rfl, ha⟩ := hrel
    by_cases hlt : k < len
    · have hy := HB.out k hlt
      have hcell := HC.out k hlt
      have hv := valTo_lt f k
      have hD := Lib.hid (dig_at (f k) hy)
      have hS : Hid (valTo f (k + 1) = (16 * valTo f k + (hexP (f k)).1) % 256) := Lib.hid rfl
      have hA : Hid (allHex f (k + 1) = (allHex f k && (hexP (f k)).2)) := Lib.hid rfl
      have hN : Hid ((hexP (f k)).2 = false → allHex f len = false) := Lib.hid (fun h => allHex_no h len hlt)
      have hI : Hid (valI (f k) = if (hexP (f k)).2 then ((hexP (f k)).1 : Int) else -1) := Lib.hid rfl
      have hP := hexP_lt (f k)
      have hG : Hid (dig1 (f k) = if 97 ≤ f k ∧ f k ≤ 102 then f k - 32 else f k) := Lib.hid rfl
      generalize f k = y at *
      generalize valTo f k = v at *
      obtain ⟨d, hd⟩ : ∃ d, dig1 y = d := ⟨_, rfl⟩
      rw [hd] at hD hG
      have hd256 : d < 256 := by have := hG.out; split at this <;> omega
      obtain ⟨p, hp⟩ : ∃ p, (hexP y).1 = p := ⟨_, rfl⟩
      rw [hp] at hS hI hP
      clear hd hp
      have h3 : (97 ≤ y ∧ y ≤ 102) ∨ y < 97 ∨ 102 < y := by omega
      rcases h3 with h | h | h
      all_goals
        first | have a1 : decide ((97 : Int) ≤ (y : Int)) = true := decide_eq_true (by omega) | have a1 : decide ((97 : Int) ≤ (y : Int)) = false := decide_eq_false (by omega)
        first | have a2 : decide ((y : Int) ≤ 102) = true := decide_eq_true (by omega) | have a2 : decide ((y : Int) ≤ 102) = false := decide_eq_false (by omega)
        first
          | have hd2 : Hid ((y : Int) - 32 = (d : Int)) := Lib.hid (by have := hG.out; rw [if_pos (by omega)] at this; omega)
          | have hd2 : Hid ((y : Int) = (d : Int)) := Lib.hid (by have := hG.out; rw [if_neg (by omega)] at this; omega)
        go_wp2_with fail
        rw [hd2.out]
        refine (indexByte_any _ _ _).mono ?_
        rintro e w' ⟨rfl, rfl⟩
        rw [Int.toNat_natCast]
        rw [hD.out]
        cases hx : (hexP y).2
        · have hv1 : valI y = -1 := by rw [hI.out, hx]; rfl
          have hr : Hid (valR f len = .tuple #[.int .u8 0, .bool false]) := Lib.hid (by unfold valR; rw [hN.out hx]; rfl)
          clear hx
          rw [hv1]
          clear hv1
          go_wp2_with fail
          go_ret2
          exact ⟨by rw [hr.out]; rfl, rfl⟩
        · have hv1 : valI y = (p : Int) := by rw [hI.out, hx]; rfl
          have hA2 : Hid (allHex f (k + 1) = true) := Lib.hid (by rw [hA.out, ha.out, hx]; rfl)
          clear hx
          rw [hv1]
          clear hv1
          go_wp2_with fail
          go_round
          case rel => exact ⟨k + 1, by omega, by go_num, by rw [hS.out]; congr 1; omega, hA2⟩
          case measure => simp [intOf]; omega
    · obtain rfl : k = len := by omega
      have hr : Hid (valR f k = .tuple #[.int .u8 (valTo f k : Nat), .bool true]) := Lib.hid (by unfold valR; rw [ha.out]; rfl)
      clear ha
      go_wp2_with fail
      go_ret2
      exact ⟨by rw [hr.out]; rfl, rfl⟩
theorem below_undrew {n : Nat} {W W' : World} (h : Below n W.drew W') : Below n W W' := ((Below.refl n W).drew).trans h
set_option maxHeartbeats 2000000 in
theorem pescape_any (B b g cap : Nat) (bs : List Value) (y : Nat) (hy : y < 256) (w : World) (h : BIs B b bs w) (hlen : bs.length + 3 ≤ 140737488355328) (hBw : B ≤ w.heap.size) (hc : w.cell? ⟨g, 0, none⟩ = some (.int .u8 (y : Int))) :
    Calls Tryd.prog 79 #[.pointer (some ⟨b, 0, none⟩), .slice (some ⟨g, 0, none⟩) 1 cap] w fun e w' => e = .returned (.tuple #[]) ∧ (BAt B b (bs ++ [.int .u8 37, encU (hexU (y / 16)), encU (hexU (y % 16))]) w' ∧ Below B w w') := by
  have q3 : IntKind.u8.wrap ((y : Int) / 16) = ((y / 16 : Nat) : Int) := by rw [IntKind.wrap_u8']; omega
  have q4 : ((y : Int)).tmod 16 = ((y % 16 : Nat) : Int) := by rw [Int.tmod_eq_emod_of_nonneg (by omega)]; omega
  have i1 : 0 ≤ (y : Int) / 16 ∧ (y : Int) / 16 < 16 := ⟨by omega, by omega⟩
  have i2 : 0 ≤ (y : Int) % 16 ∧ (y : Int) % 16 < 16 := ⟨by omega, by omega⟩
  have n1 : ((y : Int) / 16).toNat = y / 16 := by omega
  have n2 : ((y : Int) % 16).toNat = y % 16 := by omega
  go_enter Tryd.func79, Tryd.ntmps79
  go_wp2_with fail
  refine wp_loop_rounds 2 ?_
  rw [rounds_succ]
  go_wp2_with fail
  refine (writeByte_any B b _ _ _ h (by omega) hBw).mono ?_
  rintro e w1 ⟨rfl, h1, b1⟩
  have z1 := b1.size
  go_upto_region 4 with fail
  refine wp_region_noPanic ?_
  refine wp_region_held_drew (S := fun _ => True) (by kernel_rfl) ?_ (fun hHeld => ?_)
  focus ((try dsimp only); all_goals trivial)
  try simp only [Act.put, List.setIfInBounds_toArray, List.set_cons_zero, List.set_cons_succ]
  refine wpAnyH_take (i := 0) (oi := { dst := some 16, op := Go.Op.move (Go.Operand.tmp 0), type := 114, pos := "percent.go:26", after := #[], guard := none }) (v := ?_) rfl (by kernel_rfl) (by kernel_rfl) (by kernel_rfl) (fun _ _ _ h => h) (Or.inl ⟨by rfl, ?_⟩) (by assumption) ?_
  rotate_left
  focus ((intro w hSw; (try dsimp only at hSw); go_simp) <;> (with_reducible rfl))
  try simp only [Act.put, List.setIfInBounds_toArray, List.set_cons_zero, List.set_cons_succ]
  refine wpAnyH_take (i := 1) (oi := { dst := some 17, op := Go.Op.nilCheck (Go.Operand.tmp 16), type := 0, pos := "percent.go:26", after := #[{ on := 0, ground := Go.Ground.data }], guard := none }) (v := ?_) rfl (by kernel_rfl) (by kernel_rfl) (by kernel_rfl) (fun _ _ _ h => h) (Or.inl ⟨by rfl, ?_⟩) (by assumption) ?_
  rotate_left
  focus ((intro w hSw; (try dsimp only at hSw); go_simp) <;> (with_reducible rfl))
  try simp only [Act.put, List.setIfInBounds_toArray, List.set_cons_zero, List.set_cons_succ]
  refine wpAnyH_take (i := 2) (oi := { dst := some 18, op := Go.Op.fieldAddr 83 (Go.Operand.tmp 17) 0, type := 0, pos := "percent.go:26", after := #[{ on := 1, ground := Go.Ground.data }], guard := none }) (v := ?_) rfl (by kernel_rfl) (by kernel_rfl) (by kernel_rfl) (fun _ _ _ h => h) (Or.inl ⟨by rfl, ?_⟩) (by assumption) ?_
  rotate_left
  focus ((intro w hSw; (try dsimp only at hSw); go_simp) <;> (with_reducible rfl))
  try simp only [Act.put, List.setIfInBounds_toArray, List.set_cons_zero, List.set_cons_succ]
  refine wpAnyH_take (i := 3) (oi := { dst := some 19, op := Go.Op.move (Go.Operand.tmp 5), type := 5, pos := "percent.go:26", after := #[], guard := none }) (v := ?_) rfl (by kernel_rfl) (by kernel_rfl) (by kernel_rfl) (fun _ _ _ h => h) (Or.inl ⟨by rfl, ?_⟩) (by assumption) ?_
  rotate_left
  focus ((intro w hSw; (try dsimp only at hSw); go_simp) <;> (with_reducible rfl))
  try simp only [Act.put, List.setIfInBounds_toArray, List.set_cons_zero, List.set_cons_succ]
  refine wpAnyH_take (i := 4) (oi := { dst := some 20, op := Go.Op.binOp Go.BinOp.quo 5 (Go.Operand.tmp 19) (Go.Operand.const (Go.Value.int Go.IntKind.u8 16)) 5, type := 5, pos := "percent.go:26", after := #[{ on := 3, ground := Go.Ground.data }], guard := none }) (v := ?_) rfl (by kernel_rfl) (by kernel_rfl) (by kernel_rfl) (fun _ _ _ h => h) (Or.inl ⟨by rfl, ?_⟩) (by assumption) ?_
  rotate_left
  focus ((intro w hSw; (try dsimp only at hSw); go_simp) <;> (with_reducible rfl))
  try simp only [Act.put, List.setIfInBounds_toArray, List.set_cons_zero, List.set_cons_succ]
  refine wpAnyH_take (i := 5) (oi := { dst := some 21, op := Go.Op.index 9 (Go.Operand.const (Go.Value.string { data := #[48, 49, 50, 51, 52, 53, 54, 55, 56, 57, 65, 66, 67, 68, 69, 70] })) (Go.Operand.tmp 20), type := 5, pos := "percent.go:26", after := #[{ on := 4, ground := Go.Ground.data }], guard := none }) (v := ?_) rfl (by kernel_rfl) (by kernel_rfl) (by kernel_rfl) (fun _ _ _ h => h) (Or.inl ⟨by rfl, ?_⟩) (by assumption) ?_
  rotate_left
  focus ((intro w hSw; (try dsimp only at hSw); go_simp) <;> (with_reducible rfl))
  try simp only [Act.put, List.setIfInBounds_toArray, List.set_cons_zero, List.set_cons_succ]
  refine wpAnyH_ready (rs := [6]) (by kernel_rfl) (by simp) ?_
  refine AllReadyH.cons (o := { dst := some 22, op := Go.Op.call { callee := Go.Callee.value (Go.Operand.func 59), args := #[Go.Operand.tmp 18, Go.Operand.tmp 21], argTypes := #[58, 5] }, type := 62, pos := "percent.go:26", after := #[{ on := 2, ground := Go.Ground.data }, { on := 5, ground := Go.Ground.data }], guard := none }) rfl (fun K hK => ?_) AllReadyH.nil
  go_simp
  (go_at_call 59; refine (writeByte_any B b _ _ _ (Or.inr h1.drew) (by simp; omega) (by simp; omega)).mono ?_; rintro e w2 ⟨rfl, hw2, bw2⟩)
  first | (go_wp2_with fail) | skip
  refine hK.out _ _ ?_ (fun hNew => ?_)
  focus ((try dsimp only); all_goals trivial)
  clear hK K hHeld
  have hHeld := hNew
  clear hNew
  try simp only [Act.put, List.setIfInBounds_toArray, List.set_cons_zero, List.set_cons_succ]
  refine wpAnyH_done (by kernel_rfl) ?_ _
  refine NoPanic.normal ?_
  have z2 := bw2.size
  simp only [World.size_drew] at z2
  clear hHeld
  go_upto_region 5 with fail
  refine wp_region_noPanic ?_
  refine wp_region_held_drew (S := fun _ => True) (by kernel_rfl) ?_ (fun hHeld => ?_)
  focus ((try dsimp only); all_goals trivial)
  try simp only [Act.put, List.setIfInBounds_toArray, List.set_cons_zero, List.set_cons_succ]
  refine wpAnyH_take (i := 0) (oi := { dst := some 23, op := Go.Op.move (Go.Operand.tmp 0), type := 114, pos := "percent.go:27", after := #[], guard := none }) (v := ?_) rfl (by kernel_rfl) (by kernel_rfl) (by kernel_rfl) (fun _ _ _ h => h) (Or.inl ⟨by rfl, ?_⟩) (by assumption) ?_
  rotate_left
  focus ((intro w hSw; (try dsimp only at hSw); go_simp) <;> (with_reducible rfl))
  try simp only [Act.put, List.setIfInBounds_toArray, List.set_cons_zero, List.set_cons_succ]
  refine wpAnyH_take (i := 1) (oi := { dst := some 24, op := Go.Op.nilCheck (Go.Operand.tmp 23), type := 0, pos := "percent.go:27", after := #[{ on := 0, ground := Go.Ground.data }], guard := none }) (v := ?_) rfl (by kernel_rfl) (by kernel_rfl) (by kernel_rfl) (fun _ _ _ h => h) (Or.inl ⟨by rfl, ?_⟩) (by assumption) ?_
  rotate_left
  focus ((intro w hSw; (try dsimp only at hSw); go_simp) <;> (with_reducible rfl))
  try simp only [Act.put, List.setIfInBounds_toArray, List.set_cons_zero, List.set_cons_succ]
  refine wpAnyH_take (i := 2) (oi := { dst := some 25, op := Go.Op.fieldAddr 83 (Go.Operand.tmp 24) 0, type := 0, pos := "percent.go:27", after := #[{ on := 1, ground := Go.Ground.data }], guard := none }) (v := ?_) rfl (by kernel_rfl) (by kernel_rfl) (by kernel_rfl) (fun _ _ _ h => h) (Or.inl ⟨by rfl, ?_⟩) (by assumption) ?_
  rotate_left
  focus ((intro w hSw; (try dsimp only at hSw); go_simp) <;> (with_reducible rfl))
  try simp only [Act.put, List.setIfInBounds_toArray, List.set_cons_zero, List.set_cons_succ]
  refine wpAnyH_take (i := 3) (oi := { dst := some 26, op := Go.Op.move (Go.Operand.tmp 5), type := 5, pos := "percent.go:27", after := #[], guard := none }) (v := ?_) rfl (by kernel_rfl) (by kernel_rfl) (by kernel_rfl) (fun _ _ _ h => h) (Or.inl ⟨by rfl, ?_⟩) (by assumption) ?_
  rotate_left
  focus ((intro w hSw; (try dsimp only at hSw); go_simp) <;> (with_reducible rfl))
  try simp only [Act.put, List.setIfInBounds_toArray, List.set_cons_zero, List.set_cons_succ]
  refine wpAnyH_take (i := 4) (oi := { dst := some 27, op := Go.Op.binOp Go.BinOp.rem 5 (Go.Operand.tmp 26) (Go.Operand.const (Go.Value.int Go.IntKind.u8 16)) 5, type := 5, pos := "percent.go:27", after := #[{ on := 3, ground := Go.Ground.data }], guard := none }) (v := ?_) rfl (by kernel_rfl) (by kernel_rfl) (by kernel_rfl) (fun _ _ _ h => h) (Or.inl ⟨by rfl, ?_⟩) (by assumption) ?_
  rotate_left
  focus ((intro w hSw; (try dsimp only at hSw); go_simp) <;> (with_reducible rfl))
  try simp only [Act.put, List.setIfInBounds_toArray, List.set_cons_zero, List.set_cons_succ]
  refine wpAnyH_take (i := 5) (oi := { dst := some 28, op := Go.Op.index 9 (Go.Operand.const (Go.Value.string { data := #[48, 49, 50, 51, 52, 53, 54, 55, 56, 57, 65, 66, 67, 68, 69, 70] })) (Go.Operand.tmp 27), type := 5, pos := "percent.go:27", after := #[{ on := 4, ground := Go.Ground.data }], guard := none }) (v := ?_) rfl (by kernel_rfl) (by kernel_rfl) (by kernel_rfl) (fun _ _ _ h => h) (Or.inl ⟨by rfl, ?_⟩) (by assumption) ?_
  rotate_left
  focus ((intro w hSw; (try dsimp only at hSw); go_simp) <;> (with_reducible rfl))
  try simp only [Act.put, List.setIfInBounds_toArray, List.set_cons_zero, List.set_cons_succ]
  refine wpAnyH_ready (rs := [6]) (by kernel_rfl) (by simp) ?_
  refine AllReadyH.cons (o := { dst := some 29, op := Go.Op.call { callee := Go.Callee.value (Go.Operand.func 59), args := #[Go.Operand.tmp 25, Go.Operand.tmp 28], argTypes := #[58, 5] }, type := 62, pos := "percent.go:27", after := #[{ on := 2, ground := Go.Ground.data }, { on := 5, ground := Go.Ground.data }], guard := none }) rfl (fun K hK => ?_) AllReadyH.nil
  go_simp
  (go_at_call 59; refine (writeByte_any B b _ _ _ (Or.inr hw2.drew) (by simp; omega) (by simp; omega)).mono ?_; rintro e w3 ⟨rfl, hw3, bw3⟩)
  first | (go_wp2_with fail) | skip
  refine hK.out _ _ ?_ (fun hNew => ?_)
  focus ((try dsimp only); all_goals trivial)
  clear hK K hHeld
  have hHeld := hNew
  clear hNew
  try simp only [Act.put, List.setIfInBounds_toArray, List.set_cons_zero, List.set_cons_succ]
  refine wpAnyH_done (by kernel_rfl) ?_ _
  refine NoPanic.normal ?_
  go_wp2_with fail
  rw [rounds_succ]
  go_wp2_with fail
  go_end0
  refine ⟨rfl, ?_, (b1.trans (below_undrew bw2)).trans (below_undrew bw3)⟩
  simp only [hexU_list, List.append_assoc, List.cons_append, List.nil_append] at hw3
  exact hw3
end Go.Proofs.YtbbphchhdppipaaDoor
