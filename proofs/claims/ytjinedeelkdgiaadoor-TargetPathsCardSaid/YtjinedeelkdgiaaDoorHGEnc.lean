/-
  The reference's Encode for every text and every set.
-/
import Derived.Test.YtjinedeelkdgiaaDoorHOwn
namespace Go.Proofs.YtjinedeelkdgiaaDoor
open Go.RowKit
attribute [local go_sem] ba_get w_0 w_1 w_2 w_3
/-- The digits of an escape. -/
def hexUL : List UInt8 := [48, 49, 50, 51, 52, 53, 54, 55, 56, 57, 65, 66, 67, 68, 69, 70]
def hexU (n : Nat) : UInt8 := (hexUL[n]?).getD 0
theorem hexU_list (i : Nat) (h : i < ([48, 49, 50, 51, 52, 53, 54, 55, 56, 57, 65, 66, 67, 68, 69, 70] : List UInt8).length) : ([48, 49, 50, 51, 52, 53, 54, 55, 56, 57, 65, 66, 67, 68, 69, 70] : List UInt8)[i]'h = hexU i := by
  unfold hexU
  rw [List.getElem?_eq_getElem (show i < hexUL.length from h)]
  rfl
/-- How a byte is encoded. -/
def enc1 (s : WSet) (b : UInt8) : List UInt8 := if (b != 37 && s.has b.toNat) then [b] else [37, hexU (b.toNat / 16), hexU (b.toNat % 16)]
def encL (s : WSet) (l : List UInt8) : List UInt8 := l.flatMap (enc1 s)
theorem enc1_length (s : WSet) (b : UInt8) : (enc1 s b).length ≤ 3 := by
  unfold enc1; split <;> simp
theorem encL_length (s : WSet) : ∀ l : List UInt8, (encL s l).length ≤ 3 * l.length
  | [] => Nat.le_refl _
  | b :: l => by
    have h1 := enc1_length s b
    have h2 := encL_length s l
    show (enc1 s b ++ encL s l).length ≤ _
    rw [List.length_append, List.length_cons]
    omega
theorem encL_take {s : WSet} {l : List UInt8} {k : Nat} (h : k < l.length) : encL s (l.take (k + 1)) = encL s (l.take k) ++ enc1 s l[k] := by
  unfold encL
  rw [List.take_succ_eq_append_getElem h, List.flatMap_append]
  simp
set_option maxHeartbeats 4000000 in
theorem refEncode_any (l : List UInt8) (hl : l.length < 1000000) (a b c d : BitVec 64) (w : World) :
    Calls Tryd.prog 41 #[.string ⟨l.toArray⟩, .agg #[.int .u64 a.toNat, .int .u64 b.toNat, .int .u64 c.toNat, .int .u64 d.toNat]] w fun e w' => e = .returned (.string ⟨(encL ⟨a, b, c, d⟩ l).toArray⟩) ∧ Below w.heap.size w w' := by
  obtain ⟨i0, hi, hz0, hz1, hz2⟩ := info_parts info5
  go_enter Tryd.func41, Tryd.ntmps41
  go_wp2_with fail
  go_loopw [5, 6] (fun v i wr => ∃ (k : Nat) (o : List UInt8), k ≤ l.length ∧ i = .int .i64 k ∧ Hid (o = encL ⟨a, b, c, d⟩ (l.take k)) ∧ wr.ownsRow (w.heap.size + 1) 5 1 v o.length (o.map encU) ∧ Blk wr w.heap.size ⟨a, b, c, d⟩ ∧ Below w.heap.size w wr ∧ w.heap.size < wr.heap.size)
    (fun _ i _ => l.length - (intOf i).toNat)
  case atStart =>
    exact ⟨0, [], Nat.zero_le _, rfl, Lib.hid (by rw [List.take_zero]; rfl), World.ownsRow_nil _ _ _ _, Blk.new w ⟨a, b, c, d⟩, by go_grown, by simp⟩
  case round =>
    obtain ⟨k, o, hk, rfl, ho, hrow, a0, hB, hlt0⟩ := hrel
    have l1 := a0.lt
    obtain ⟨N, hN⟩ : ∃ N, Hid (wr.heap.size = N) := ⟨_, Lib.hid rfl⟩
    by_cases hlt : k < l.length
    · have h1 : decide ((k : Int) < (l.length : Int)) = true := decide_eq_true (by omega)
      have hb2 : (k : Int) < (l.length : Int) := by omega
      have hol : o.length ≤ 3 * l.length := by
        rw [ho.out]
        refine Nat.le_trans (encL_length _ _) ?_
        rw [List.length_take]; omega
      have hstep := Lib.hid (encL_take (s := ⟨a, b, c, d⟩) hlt)
      obtain ⟨z, hz⟩ : ∃ z, l[k] = z := ⟨_, rfl⟩
      rw [hz] at hstep
      obtain ⟨y, hy⟩ : ∃ y, z.toNat = y := ⟨_, rfl⟩
      have hy256 : y < 256 := by rw [← hy]; exact UInt8.toNat_lt _
      obtain ⟨q, hq⟩ : ∃ q, (z != 37 && (WSet.mk a b c d).has z.toNat) = q := ⟨_, rfl⟩
      go_upto_region 5 with fail
      go_cut [23] (fun p wx => p = .bool q ∧ Below wr.heap.size wr wx)
      case first =>
        by_cases h37 : y = 37
        · have hz37 : z = 37 := UInt8.toNat_inj.1 (by rw [hy, h37]; rfl)
          have hq0 := Lib.hid (show q = false by rw [← hq, hz37]; rfl)
          subst h37
          clear hq hz37 hstep
          refine wp_region_noPanic ?_
          refine wp_region_held_drew (S := fun wx => Below N wr wx ∧ wx.cell? ⟨w.heap.size, 0, none⟩ = some (.int .u64 (a.toNat : Int)) ∧ wx.cell? ⟨w.heap.size, 1, none⟩ = some (.int .u64 (b.toNat : Int)) ∧ wx.cell? ⟨w.heap.size, 2, none⟩ = some (.int .u64 (c.toNat : Int)) ∧ wx.cell? ⟨w.heap.size, 3, none⟩ = some (.int .u64 (d.toNat : Int))) (by kernel_rfl) ?_ (fun hHeld => ?_)
          focus ((try dsimp only); ((go_split_ands; refine held1 hN.out a0 l1 ?_; have hN := hN.out; repeat' (first | (with_reducible assumption) | (with_reducible exact Below.refl _ _) | (with_reducible refine Below.drew ?_) | (refine Below.transS (wx := ?_) hN ?_ ?_; rotate_left 2; assumption)))))
          try simp only [Act.put, List.setIfInBounds_toArray, List.set_cons_zero, List.set_cons_succ]
          refine wpAnyH_take (i := 0) (oi := { dst := some 13, op := Go.Op.move (Go.Operand.tmp 0), type := 9, pos := "ref.go:57", after := #[], guard := none }) (v := ?_) rfl (by kernel_rfl) (by kernel_rfl) (by kernel_rfl) (fun _ _ _ h => h) (Or.inl ⟨by rfl, ?_⟩) (by assumption) ?_
          rotate_left
          focus ((intro w hSw; (try dsimp only at hSw); go_simp) <;> (with_reducible rfl))
          try simp only [Act.put, List.setIfInBounds_toArray, List.set_cons_zero, List.set_cons_succ]
          refine wpAnyH_take (i := 1) (oi := { dst := some 14, op := Go.Op.move (Go.Operand.tmp 6), type := 3, pos := "ref.go:57", after := #[], guard := none }) (v := ?_) rfl (by kernel_rfl) (by kernel_rfl) (by kernel_rfl) (fun _ _ _ h => h) (Or.inl ⟨by rfl, ?_⟩) (by assumption) ?_
          rotate_left
          focus ((intro w hSw; (try dsimp only at hSw); go_simp) <;> (with_reducible rfl))
          try simp only [Act.put, List.setIfInBounds_toArray, List.set_cons_zero, List.set_cons_succ]
          refine wpAnyH_take (i := 2) (oi := { dst := some 15, op := Go.Op.index 9 (Go.Operand.tmp 13) (Go.Operand.tmp 14), type := 5, pos := "ref.go:57", after := #[{ on := 0, ground := Go.Ground.data }, { on := 1, ground := Go.Ground.data }], guard := none }) (v := ?_) rfl (by kernel_rfl) (by kernel_rfl) (by kernel_rfl) (fun _ _ _ h => h) (Or.inl ⟨by rfl, ?_⟩) (by assumption) ?_
          rotate_left
          focus ((intro w hSw; (try dsimp only at hSw); go_simp) <;> (with_reducible rfl))
          try simp only [Act.put, List.setIfInBounds_toArray, List.set_cons_zero, List.set_cons_succ]
          refine wpAnyH_take (i := 3) (oi := { dst := some 16, op := Go.Op.binOp Go.BinOp.neq 5 (Go.Operand.tmp 15) (Go.Operand.const (Go.Value.int Go.IntKind.u8 37)) 5, type := 4, pos := "ref.go:57", after := #[{ on := 2, ground := Go.Ground.data }], guard := none }) (v := ?_) rfl (by kernel_rfl) (by kernel_rfl) (by kernel_rfl) (fun _ _ _ h => h) (Or.inl ⟨by rfl, ?_⟩) (by assumption) ?_
          rotate_left
          focus ((intro w hSw; (try dsimp only at hSw); go_simp) <;> (with_reducible rfl))
          try simp only [Act.put, List.setIfInBounds_toArray, List.set_cons_zero, List.set_cons_succ]
          refine wpAnyH_take (i := 4) (oi := { dst := some 17, op := Go.Op.move (Go.Operand.tmp 16), type := 4, pos := "ref.go:57", after := #[{ on := 3, ground := Go.Ground.data }], guard := none }) (v := ?_) rfl (by kernel_rfl) (by kernel_rfl) (by kernel_rfl) (fun _ _ _ h => h) (Or.inl ⟨by rfl, ?_⟩) (by assumption) ?_
          rotate_left
          focus ((intro w hSw; (try dsimp only at hSw); go_simp) <;> (with_reducible rfl))
          try simp only [Act.put, List.setIfInBounds_toArray, List.set_cons_zero, List.set_cons_succ]
          refine wpAnyH_take (i := 5) (oi := { dst := some 18, op := Go.Op.load 38 (Go.Operand.tmp 3), type := 38, pos := "ref.go:57", after := #[{ on := 4, ground := Go.Ground.guard }], guard := some (4, true) }) (v := undef) rfl (by kernel_rfl) (by kernel_rfl) (by kernel_rfl) (fun _ _ _ h => h) (Or.inr ⟨by rfl, rfl⟩) (by assumption) ?_
          try simp only [Act.put, List.setIfInBounds_toArray, List.set_cons_zero, List.set_cons_succ]
          refine wpAnyH_take (i := 6) (oi := { dst := some 19, op := Go.Op.move (Go.Operand.tmp 0), type := 9, pos := "ref.go:57", after := #[{ on := 4, ground := Go.Ground.guard }], guard := some (4, true) }) (v := undef) rfl (by kernel_rfl) (by kernel_rfl) (by kernel_rfl) (fun _ _ _ h => h) (Or.inr ⟨by rfl, rfl⟩) (by assumption) ?_
          try simp only [Act.put, List.setIfInBounds_toArray, List.set_cons_zero, List.set_cons_succ]
          refine wpAnyH_take (i := 7) (oi := { dst := some 20, op := Go.Op.move (Go.Operand.tmp 6), type := 3, pos := "ref.go:57", after := #[{ on := 4, ground := Go.Ground.guard }], guard := some (4, true) }) (v := undef) rfl (by kernel_rfl) (by kernel_rfl) (by kernel_rfl) (fun _ _ _ h => h) (Or.inr ⟨by rfl, rfl⟩) (by assumption) ?_
          try simp only [Act.put, List.setIfInBounds_toArray, List.set_cons_zero, List.set_cons_succ]
          refine wpAnyH_take (i := 8) (oi := { dst := some 21, op := Go.Op.index 9 (Go.Operand.tmp 19) (Go.Operand.tmp 20), type := 5, pos := "ref.go:57", after := #[{ on := 6, ground := Go.Ground.data }, { on := 7, ground := Go.Ground.data }, { on := 4, ground := Go.Ground.guard }], guard := some (4, true) }) (v := undef) rfl (by kernel_rfl) (by kernel_rfl) (by kernel_rfl) (fun _ _ _ h => h) (Or.inr ⟨by rfl, rfl⟩) (by assumption) ?_
          try simp only [Act.put, List.setIfInBounds_toArray, List.set_cons_zero, List.set_cons_succ]
          refine wpAnyH_take (i := 9) (oi := { dst := some 22, op := Go.Op.call { callee := Go.Callee.value (Go.Operand.func 72), args := #[Go.Operand.tmp 18, Go.Operand.tmp 21], argTypes := #[38, 5] }, type := 4, pos := "ref.go:57", after := #[{ on := 5, ground := Go.Ground.data }, { on := 8, ground := Go.Ground.data }, { on := 4, ground := Go.Ground.chain }, { on := 4, ground := Go.Ground.guard }], guard := some (4, true) }) (v := undef) rfl (by kernel_rfl) (by kernel_rfl) (by kernel_rfl) (fun _ _ _ h => h) (Or.inr ⟨by rfl, rfl⟩) (by assumption) ?_
          try simp only [Act.put, List.setIfInBounds_toArray, List.set_cons_zero, List.set_cons_succ]
          refine wpAnyH_take (i := 10) (oi := { dst := some 23, op := Go.Op.pick (Go.Operand.tmp 17) (Go.Operand.tmp 22) (Go.Operand.const (Go.Value.bool false)), type := 4, pos := "ref.go:57", after := #[{ on := 4, ground := Go.Ground.data }, { on := 9, ground := Go.Ground.data }], guard := none }) (v := ?_) rfl (by kernel_rfl) (by kernel_rfl) (by kernel_rfl) (fun _ _ _ h => h) (Or.inl ⟨by rfl, ?_⟩) (by assumption) ?_
          rotate_left
          focus ((intro w hSw; (try dsimp only at hSw); go_simp) <;> (with_reducible rfl))
          try simp only [Act.put, List.setIfInBounds_toArray, List.set_cons_zero, List.set_cons_succ]
          refine wpAnyH_done (by kernel_rfl) ?_ _
          refine NoPanic.normal ?_
          go_wp2_with fail
          go_meet
          exact ⟨by rw [hq0.out], below_eq hN.out hHeld.1⟩
        · have hz37 : z ≠ 37 := fun e => h37 (by rw [← hy, e]; rfl)
          have hq0 : (WSet.mk a b c d).has y = q := by rw [← hq, hy]; simp [hz37]
          have HQ := Lib.hid hq0
          have hy37 : (y == 37) = false := by rw [beq_eq_false_iff_ne]; exact h37
          have hy38 : (y != 37) = true := by rw [bne, hy37]; rfl
          have hy39 : ((y : Int) == 37) = false := by rw [beq_eq_false_iff_ne]; omega
          have hy40 : ((y : Int) != 37) = true := by rw [bne, hy39]; rfl
          clear hq hz37 hstep hq0 h37
          refine wp_region_noPanic ?_
          refine wp_region_held_drew (S := fun wx => Below N wr wx ∧ wx.cell? ⟨w.heap.size, 0, none⟩ = some (.int .u64 (a.toNat : Int)) ∧ wx.cell? ⟨w.heap.size, 1, none⟩ = some (.int .u64 (b.toNat : Int)) ∧ wx.cell? ⟨w.heap.size, 2, none⟩ = some (.int .u64 (c.toNat : Int)) ∧ wx.cell? ⟨w.heap.size, 3, none⟩ = some (.int .u64 (d.toNat : Int))) (by kernel_rfl) ?_ (fun hHeld => ?_)
          focus ((try dsimp only); ((go_split_ands; refine held1 hN.out a0 l1 ?_; have hN := hN.out; repeat' (first | (with_reducible assumption) | (with_reducible exact Below.refl _ _) | (with_reducible refine Below.drew ?_) | (refine Below.transS (wx := ?_) hN ?_ ?_; rotate_left 2; assumption)))))
          try simp only [Act.put, List.setIfInBounds_toArray, List.set_cons_zero, List.set_cons_succ]
          refine wpAnyH_take (i := 0) (oi := { dst := some 13, op := Go.Op.move (Go.Operand.tmp 0), type := 9, pos := "ref.go:57", after := #[], guard := none }) (v := ?_) rfl (by kernel_rfl) (by kernel_rfl) (by kernel_rfl) (fun _ _ _ h => h) (Or.inl ⟨by rfl, ?_⟩) (by assumption) ?_
          rotate_left
          focus ((intro w hSw; (try dsimp only at hSw); go_simp) <;> (with_reducible rfl))
          try simp only [Act.put, List.setIfInBounds_toArray, List.set_cons_zero, List.set_cons_succ]
          refine wpAnyH_take (i := 1) (oi := { dst := some 14, op := Go.Op.move (Go.Operand.tmp 6), type := 3, pos := "ref.go:57", after := #[], guard := none }) (v := ?_) rfl (by kernel_rfl) (by kernel_rfl) (by kernel_rfl) (fun _ _ _ h => h) (Or.inl ⟨by rfl, ?_⟩) (by assumption) ?_
          rotate_left
          focus ((intro w hSw; (try dsimp only at hSw); go_simp) <;> (with_reducible rfl))
          try simp only [Act.put, List.setIfInBounds_toArray, List.set_cons_zero, List.set_cons_succ]
          refine wpAnyH_take (i := 2) (oi := { dst := some 15, op := Go.Op.index 9 (Go.Operand.tmp 13) (Go.Operand.tmp 14), type := 5, pos := "ref.go:57", after := #[{ on := 0, ground := Go.Ground.data }, { on := 1, ground := Go.Ground.data }], guard := none }) (v := ?_) rfl (by kernel_rfl) (by kernel_rfl) (by kernel_rfl) (fun _ _ _ h => h) (Or.inl ⟨by rfl, ?_⟩) (by assumption) ?_
          rotate_left
          focus ((intro w hSw; (try dsimp only at hSw); go_simp) <;> (with_reducible rfl))
          try simp only [Act.put, List.setIfInBounds_toArray, List.set_cons_zero, List.set_cons_succ]
          refine wpAnyH_take (i := 3) (oi := { dst := some 16, op := Go.Op.binOp Go.BinOp.neq 5 (Go.Operand.tmp 15) (Go.Operand.const (Go.Value.int Go.IntKind.u8 37)) 5, type := 4, pos := "ref.go:57", after := #[{ on := 2, ground := Go.Ground.data }], guard := none }) (v := ?_) rfl (by kernel_rfl) (by kernel_rfl) (by kernel_rfl) (fun _ _ _ h => h) (Or.inl ⟨by rfl, ?_⟩) (by assumption) ?_
          rotate_left
          focus ((intro w hSw; (try dsimp only at hSw); go_simp) <;> (with_reducible rfl))
          try simp only [Act.put, List.setIfInBounds_toArray, List.set_cons_zero, List.set_cons_succ]
          refine wpAnyH_take (i := 4) (oi := { dst := some 17, op := Go.Op.move (Go.Operand.tmp 16), type := 4, pos := "ref.go:57", after := #[{ on := 3, ground := Go.Ground.data }], guard := none }) (v := ?_) rfl (by kernel_rfl) (by kernel_rfl) (by kernel_rfl) (fun _ _ _ h => h) (Or.inl ⟨by rfl, ?_⟩) (by assumption) ?_
          rotate_left
          focus ((intro w hSw; (try dsimp only at hSw); go_simp) <;> (with_reducible rfl))
          try simp only [Act.put, List.setIfInBounds_toArray, List.set_cons_zero, List.set_cons_succ]
          refine wpAnyH_take (i := 5) (oi := { dst := some 18, op := Go.Op.load 38 (Go.Operand.tmp 3), type := 38, pos := "ref.go:57", after := #[{ on := 4, ground := Go.Ground.guard }], guard := some (4, true) }) (v := ?_) rfl (by kernel_rfl) (by kernel_rfl) (by kernel_rfl) (fun _ _ _ h => h) (Or.inl ⟨by rfl, ?_⟩) (by assumption) ?_
          rotate_left
          focus ((intro w hSw; (try dsimp only at hSw); go_simp) <;> (with_reducible rfl))
          try simp only [Act.put, List.setIfInBounds_toArray, List.set_cons_zero, List.set_cons_succ]
          refine wpAnyH_take (i := 6) (oi := { dst := some 19, op := Go.Op.move (Go.Operand.tmp 0), type := 9, pos := "ref.go:57", after := #[{ on := 4, ground := Go.Ground.guard }], guard := some (4, true) }) (v := ?_) rfl (by kernel_rfl) (by kernel_rfl) (by kernel_rfl) (fun _ _ _ h => h) (Or.inl ⟨by rfl, ?_⟩) (by assumption) ?_
          rotate_left
          focus ((intro w hSw; (try dsimp only at hSw); go_simp) <;> (with_reducible rfl))
          try simp only [Act.put, List.setIfInBounds_toArray, List.set_cons_zero, List.set_cons_succ]
          refine wpAnyH_take (i := 7) (oi := { dst := some 20, op := Go.Op.move (Go.Operand.tmp 6), type := 3, pos := "ref.go:57", after := #[{ on := 4, ground := Go.Ground.guard }], guard := some (4, true) }) (v := ?_) rfl (by kernel_rfl) (by kernel_rfl) (by kernel_rfl) (fun _ _ _ h => h) (Or.inl ⟨by rfl, ?_⟩) (by assumption) ?_
          rotate_left
          focus ((intro w hSw; (try dsimp only at hSw); go_simp) <;> (with_reducible rfl))
          try simp only [Act.put, List.setIfInBounds_toArray, List.set_cons_zero, List.set_cons_succ]
          refine wpAnyH_take (i := 8) (oi := { dst := some 21, op := Go.Op.index 9 (Go.Operand.tmp 19) (Go.Operand.tmp 20), type := 5, pos := "ref.go:57", after := #[{ on := 6, ground := Go.Ground.data }, { on := 7, ground := Go.Ground.data }, { on := 4, ground := Go.Ground.guard }], guard := some (4, true) }) (v := ?_) rfl (by kernel_rfl) (by kernel_rfl) (by kernel_rfl) (fun _ _ _ h => h) (Or.inl ⟨by rfl, ?_⟩) (by assumption) ?_
          rotate_left
          focus ((intro w hSw; (try dsimp only at hSw); go_simp) <;> (with_reducible rfl))
          try simp only [Act.put, List.setIfInBounds_toArray, List.set_cons_zero, List.set_cons_succ]
          refine wpAnyH_ready (rs := [9]) (by kernel_rfl) (by simp) ?_
          refine AllReadyH.cons (o := { dst := some 22, op := Go.Op.call { callee := Go.Callee.value (Go.Operand.func 72), args := #[Go.Operand.tmp 18, Go.Operand.tmp 21], argTypes := #[38, 5] }, type := 4, pos := "ref.go:57", after := #[{ on := 5, ground := Go.Ground.data }, { on := 8, ground := Go.Ground.data }, { on := 4, ground := Go.Ground.chain }, { on := 4, ground := Go.Ground.guard }], guard := some (4, true) }) rfl (fun K hK => ?_) AllReadyH.nil
          go_simp
          (go_at_call 72; refine (refHas_any a b c d y hy256 _).mono ?_; rintro e w' ⟨rfl, hb⟩; rw [HQ.out])
          first | (go_wp2_with fail) | skip
          refine hK.out _ _ ?_ (fun hNew => ?_)
          focus ((try dsimp only); ((go_split_ands; refine held1 hN.out a0 l1 ?_; have hN := hN.out; repeat' (first | (with_reducible assumption) | (with_reducible exact Below.refl _ _) | (with_reducible refine Below.drew ?_) | (refine Below.transS (wx := ?_) hN ?_ ?_; rotate_left 2; assumption)))))
          clear hK K hHeld
          have hHeld := hNew
          clear hNew
          try simp only [Act.put, List.setIfInBounds_toArray, List.set_cons_zero, List.set_cons_succ]
          refine wpAnyH_take (i := 10) (oi := { dst := some 23, op := Go.Op.pick (Go.Operand.tmp 17) (Go.Operand.tmp 22) (Go.Operand.const (Go.Value.bool false)), type := 4, pos := "ref.go:57", after := #[{ on := 4, ground := Go.Ground.data }, { on := 9, ground := Go.Ground.data }], guard := none }) (v := ?_) rfl (by kernel_rfl) (by kernel_rfl) (by kernel_rfl) (fun _ _ _ h => h) (Or.inl ⟨by rfl, ?_⟩) (by assumption) ?_
          rotate_left
          focus ((intro w hSw; (try dsimp only at hSw); go_simp) <;> (with_reducible rfl))
          try simp only [Act.put, List.setIfInBounds_toArray, List.set_cons_zero, List.set_cons_succ]
          refine wpAnyH_done (by kernel_rfl) ?_ _
          refine NoPanic.normal ?_
          go_wp2_with fail
          go_meet
          exact ⟨rfl, below_eq hN.out hHeld.1⟩
      case rest =>
      obtain ⟨rfl, hc⟩ := hcut
      have a0 := a0.below hc a0.lt
      have hrow := own_below hrow hc
      have hz0' := hc.size
      have hB := hB.trans (hc.mono hB.size)
      clear hc hN
      cases q
      · have he1 : Hid (enc1 ⟨a, b, c, d⟩ z = [37, hexU (y / 16), hexU (y % 16)]) := Lib.hid (by unfold enc1; rw [hq, hy]; rfl)
        clear hq
        go_upto_region 7 with fail
        have q3 : IntKind.u8.wrap ((y : Int) / 16) = ((y / 16 : Nat) : Int) := by rw [IntKind.wrap_u8']; omega
        have q4 : ((y : Int)).tmod 16 = ((y % 16 : Nat) : Int) := by rw [Int.tmod_eq_emod_of_nonneg (by omega)]; omega
        have i1 : 0 ≤ (y : Int) / 16 ∧ (y : Int) / 16 < 16 := ⟨by omega, by omega⟩
        have i2 : 0 ≤ (y : Int) % 16 ∧ (y : Int) % 16 < 16 := ⟨by omega, by omega⟩
        go_region_law (refine step_append_lies _ rfl _ _ 43 rfl (w.heap.size + 1) 5 i0 (.int .u8 0) 1 1 Tryd.underlying43 hi hz0 hz1 hz2 rfl (by decide) u5 o.length (o.map encU) rfl ((hrow.alloc _).drew) ⟨wc.heap.size, 0, none⟩ 3 3 [.int .u8 37, .int .u8 _, .int .u8 _] rfl rfl (World.news_of_block (heap_alloc_new wc _)) (by simp [Value.oneCell']) (by decide) (by unfold maxLen; omega) (by omega) (by simp; omega) _ rfl ?_; intro g cap w1 hown1 hgrow1 _ _)
        all_goals
          go_wp2_with fail
          go_roundw
          case rel =>
            have hz1 := hgrow1.size
            simp only [World.size_drew, World.size_alloc] at hz1
            refine ⟨k + 1, o ++ [37, hexU (y / 16), hexU (y % 16)], by omega, by go_num, ?_, ?_, (a0.alloc _).drew.kept hgrow1 (a0.not_row (by decide) hrow), below_grown (hB.alloc hB.size _).drew (by simp; omega) hgrow1 (own_ge hrow _ (by omega)), by omega⟩
            · refine Lib.hid ?_
              rw [hstep.out, he1.out, ho.out]
            · have e1 : ((y : Int) / 16).toNat = y / 16 := by omega
              have e2 : ((y : Int) % 16).toNat = y % 16 := by omega
              simp only [hexU_list, e1, e2] at hown1
              rw [List.map_append, List.length_append]
              exact hown1
          case measure => simp [intOf]; omega
      · have he1 : Hid (enc1 ⟨a, b, c, d⟩ z = [z]) := Lib.hid (by unfold enc1; rw [hq]; rfl)
        clear hq
        go_wp2_with (at_builtin; refine wpList_append_own _ rfl _ _ 43 rfl (w.heap.size + 1) 5 i0 (.int .u8 0) 1 1 Tryd.underlying43 hi hz0 hz1 hz2 rfl (by decide) _ _ _ rfl (hrow.alloc _) ⟨wc.heap.size, 0, none⟩ 1 1 [.int .u8 y] rfl rfl (cell_one_new _ _ _) (by simp [Value.oneCell']) (by unfold maxLen; omega) (by omega) (by simp; omega) ?_; intro v' w1 hown' hgrow _)
        go_roundw
        case rel =>
          have hz1 := hgrow.size
          simp only [World.size_alloc] at hz1
          refine ⟨k + 1, o ++ [z], by omega, by go_num, ?_, ?_, (a0.alloc _).kept hgrow (a0.not_row (by decide) hrow), below_grown (hB.alloc hB.size _) (by simp; omega) hgrow (own_ge hrow _ (by omega)), by omega⟩
          · refine Lib.hid ?_
            rw [hstep.out, he1.out, ho.out]
          · simpa [encU, hy] using hown'
        case measure => simp [intOf]; omega
    · obtain rfl : k = l.length := by omega
      have hcv := owned_text hrow
      have hres : Hid (o = encL ⟨a, b, c, d⟩ l) := Lib.hid (by rw [ho.out, List.take_length])
      go_wp2_with fail
      go_ret
      exact ⟨by rw [← hres.out]; rfl, hB⟩
end Go.Proofs.YtjinedeelkdgiaaDoor
