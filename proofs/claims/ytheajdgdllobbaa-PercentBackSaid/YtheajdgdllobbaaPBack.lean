/-
  The law PercentBack returns true for every text and set.
-/
import Derived.Test.YtheajdgdllobbaaPKnown
import Derived.Test.YtheajdgdllobbaaPBackF
namespace Go.Proofs.Ytheajdgdllobbaa
open Go.RowKit
attribute [local go_sem] ba_get w_0 w_1 w_2 w_3
set_option maxRecDepth 100000 in
set_option maxHeartbeats 8000000 in
theorem back_law (l : List UInt8) (a b c d : BitVec 64) (w : World) :
    Calls Try.prog 7 #[.string ⟨l.toArray⟩, .agg #[.int .u64 a.toNat, .int .u64 b.toNat, .int .u64 c.toNat, .int .u64 d.toNat]] w fun e w' => e = .returned (.bool true) ∧ Below w.heap.size w w' := by
  have a0 := Blk.new w ⟨a, b, c, d⟩
  have hB : Below w.heap.size w (w.alloc (.cells #[.int .u64 a.toNat, .int .u64 b.toNat, .int .u64 c.toNat, .int .u64 d.toNat] 24)) := by go_grown
  by_cases hl : 300 < l.length
  · have h1 : decide ((300 : Int) < (l.length : Int)) = true := decide_eq_true (by omega)
    go_enter Try.func7, Try.ntmps7
    go_wp2_with fail
    refine (known_law _).mono ?_
    rintro y w1 ⟨rfl, hb⟩
    go_wp2_with fail
    go_ret
    exact ⟨rfl, hB.trans (hb.mono hB.size)⟩
  · have h1 : decide ((300 : Int) < (l.length : Int)) = false := decide_eq_false (by omega)
    have hl2 : l.length < 1000000 := by omega
    have hTl0 := encL_length ⟨a, b, c, d⟩ l
    have hdec := dec_enc ⟨a, b, c, d⟩ l 0
    obtain ⟨T, HT⟩ : ∃ T, Hid (encL ⟨a, b, c, d⟩ l = T) := ⟨_, Lib.hid rfl⟩
    rw [HT.out] at hdec hTl0
    have hTl : T.length < 1000000 := by omega
    have HC : Hid (canV ⟨a, b, c, d⟩ (decL T 0) = .tuple #[.string ⟨T.toArray⟩, .agg #[.int .i64 0, .int .i64 0]]) := Lib.hid (by rw [hdec]; show Value.tuple #[.string ⟨(encL _ l).toArray⟩, _] = _; rw [HT.out])
    have HS : Hid (saysB T l = true) := Lib.hid (by unfold saysB; rw [hdec]; simp)
    have HI : Hid (isB ⟨a, b, c, d⟩ T = true) := Lib.hid (by unfold isB; rw [hdec]; simp [HT.out])
    clear hdec hTl0
    go_enter Try.func7, Try.ntmps7
    go_wp2_with fail
    refine (known_law _).mono ?_
    rintro y v0 ⟨rfl, hb⟩
    have a0 : Blk v0 w.heap.size ⟨a, b, c, d⟩ := a0.below hb a0.lt
    have hB := hB.trans (hb.mono hB.size)
    clear hb
    obtain ⟨xa00, xa01, xa02, xa03⟩ := a0.cells
    go_wp2_with fail
    clear xa00 xa01 xa02 xa03
    refine (encode_any l hl2 a b c d _).mono ?_
    rintro y v1 ⟨rfl, hb⟩
    rw [HT.out]
    have a0 : Blk v1 w.heap.size ⟨a, b, c, d⟩ := a0.below hb a0.lt
    have hB := hB.trans (hb.mono hB.size)
    clear hb
    obtain ⟨xa00, xa01, xa02, xa03⟩ := a0.cells
    go_wp2_with fail
    clear xa00 xa01 xa02 xa03
    refine (canonical_any T hTl a b c d _).mono ?_
    rintro y v2 ⟨rfl, hb⟩
    rw [HC.out]
    have a0 : Blk v2 w.heap.size ⟨a, b, c, d⟩ := a0.below hb a0.lt
    have hB := hB.trans (hb.mono hB.size)
    clear hb
    have F1 : FBlk (v2.alloc (.cells #[.int .i64 0, .int .i64 0] 28)) v2.heap.size 0 0 := heap_alloc_new v2 _
    have a0 := a0.alloc (.cells #[.int .i64 0, .int .i64 0] 28)
    have hB := hB.alloc hB.size (.cells #[.int .i64 0, .int .i64 0] 28)
    go_wp2_with fail
    obtain ⟨A2, hA2⟩ : ∃ A, v2.heap.size = A := ⟨_, rfl⟩
    obtain ⟨W2, hW2⟩ : ∃ W, v2.alloc (.cells #[.int .i64 0, .int .i64 0] 28) = W := ⟨_, rfl⟩
    rw [hA2] at F1 ⊢
    rw [hW2] at hB F1 a0 ⊢
    clear hA2 hW2
    go_loopw [9, 10] (fun n i wr => ∃ (k m : Nat), k ≤ l.length ∧ i = .int .i64 k ∧ n = .int .i64 m ∧ m ≤ k ∧ Hid ((encL ⟨a, b, c, d⟩ (l.take k)).length = k + 2 * m) ∧ Blk wr w.heap.size ⟨a, b, c, d⟩ ∧ FBlk wr A2 0 0 ∧ Below w.heap.size w wr)
      (fun _ i _ => l.length - (intOf i).toNat)
    case atStart => exact ⟨0, 0, Nat.zero_le _, rfl, rfl, Nat.le_refl _, Lib.hid (by rw [List.take_zero]; rfl), a0, F1, hB⟩
    case round =>
    obtain ⟨k, m, hk, rfl, rfl, hm, hc, a0, F1, hB⟩ := hrel
    by_cases hlt : k < l.length
    · have hk1 : decide ((k : Int) < (l.length : Int)) = true := decide_eq_true (by omega)
      have hb2 : (k : Int) < (l.length : Int) := by omega
      have hstep := encL_take (s := ⟨a, b, c, d⟩) hlt
      have hcnt := enc1_count ⟨a, b, c, d⟩ l[k]
      obtain ⟨s, hs⟩ : ∃ s, WSet.mk a b c d = s := ⟨_, rfl⟩
      obtain ⟨z, hz⟩ : ∃ z, l[k] = z := ⟨_, rfl⟩
      obtain ⟨q, hq⟩ : ∃ q, escd s z = q := ⟨_, rfl⟩
      have hnext : Hid ((encL ⟨a, b, c, d⟩ (l.take (k + 1))).length = k + 1 + 2 * (m + if q then 1 else 0)) := Lib.hid (by
        rw [hstep, List.length_append, hc.out, hcnt, hs, hz, hq]; omega)
      clear hstep hcnt
      obtain ⟨y, hy⟩ : ∃ y, z.toNat = y := ⟨_, rfl⟩
      have hy256 : y < 256 := by rw [← hy]; exact UInt8.toNat_lt _
      have hcell := a0.cell (y / 64) (by omega)
      rw [hs] at hcell
      obtain ⟨N, hN⟩ : ∃ N, Hid (wr.heap.size = N) := ⟨_, Lib.hid rfl⟩
      have l1 := a0.lt
      go_upto_region 10 with fail
      go_cut [50] (fun p wx => p = .bool q ∧ Below wr.heap.size wr wx)
      case first =>
        by_cases h37 : y = 37
        · have hz37 : z = 37 := UInt8.toNat_inj.1 (by rw [hy, h37]; rfl)
          have hq0 := Lib.hid (show q = true by rw [← hq, hz37]; rfl)
          subst h37
          clear hq hz37 hnext hs
          refine wp_region_noPanic ?_
          refine wp_region_held_drew (S := fun wx => Below N wr wx) (by kernel_rfl) ?_ (fun hHeld => ?_)
          focus ((try dsimp only); exact Below.drew (Below.refl _ _))
          try simp only [Act.put, List.setIfInBounds_toArray, List.set_cons_zero, List.set_cons_succ]
          refine wpAnyH_take (i := 0) (oi := { dst := some 31, op := Go.Op.move (Go.Operand.tmp 0), type := 9, pos := "law.go:103", after := #[], guard := none }) (v := ?_) rfl (by kernel_rfl) (by kernel_rfl) (by kernel_rfl) (fun _ _ _ h => h) (Or.inl ⟨by rfl, ?_⟩) (by assumption) ?_
          rotate_left
          focus ((intro w hSw; (try dsimp only at hSw); go_simp) <;> (with_reducible rfl))
          try simp only [Act.put, List.setIfInBounds_toArray, List.set_cons_zero, List.set_cons_succ]
          refine wpAnyH_take (i := 1) (oi := { dst := some 32, op := Go.Op.move (Go.Operand.tmp 10), type := 3, pos := "law.go:103", after := #[], guard := none }) (v := ?_) rfl (by kernel_rfl) (by kernel_rfl) (by kernel_rfl) (fun _ _ _ h => h) (Or.inl ⟨by rfl, ?_⟩) (by assumption) ?_
          rotate_left
          focus ((intro w hSw; (try dsimp only at hSw); go_simp) <;> (with_reducible rfl))
          try simp only [Act.put, List.setIfInBounds_toArray, List.set_cons_zero, List.set_cons_succ]
          refine wpAnyH_take (i := 2) (oi := { dst := some 33, op := Go.Op.index 9 (Go.Operand.tmp 31) (Go.Operand.tmp 32), type := 5, pos := "law.go:103", after := #[{ on := 0, ground := Go.Ground.data }, { on := 1, ground := Go.Ground.data }], guard := none }) (v := ?_) rfl (by kernel_rfl) (by kernel_rfl) (by kernel_rfl) (fun _ _ _ h => h) (Or.inl ⟨by rfl, ?_⟩) (by assumption) ?_
          rotate_left
          focus ((intro w hSw; (try dsimp only at hSw); go_simp) <;> (with_reducible rfl))
          try simp only [Act.put, List.setIfInBounds_toArray, List.set_cons_zero, List.set_cons_succ]
          refine wpAnyH_take (i := 3) (oi := { dst := some 34, op := Go.Op.binOp Go.BinOp.eql 5 (Go.Operand.tmp 33) (Go.Operand.const (Go.Value.int Go.IntKind.u8 37)) 5, type := 4, pos := "law.go:103", after := #[{ on := 2, ground := Go.Ground.data }], guard := none }) (v := ?_) rfl (by kernel_rfl) (by kernel_rfl) (by kernel_rfl) (fun _ _ _ h => h) (Or.inl ⟨by rfl, ?_⟩) (by assumption) ?_
          rotate_left
          focus ((intro w hSw; (try dsimp only at hSw); go_simp) <;> (with_reducible rfl))
          try simp only [Act.put, List.setIfInBounds_toArray, List.set_cons_zero, List.set_cons_succ]
          refine wpAnyH_take (i := 4) (oi := { dst := some 35, op := Go.Op.move (Go.Operand.tmp 34), type := 4, pos := "law.go:103", after := #[{ on := 3, ground := Go.Ground.data }], guard := none }) (v := ?_) rfl (by kernel_rfl) (by kernel_rfl) (by kernel_rfl) (fun _ _ _ h => h) (Or.inl ⟨by rfl, ?_⟩) (by assumption) ?_
          rotate_left
          focus ((intro w hSw; (try dsimp only at hSw); go_simp) <;> (with_reducible rfl))
          try simp only [Act.put, List.setIfInBounds_toArray, List.set_cons_zero, List.set_cons_succ]
          refine wpAnyH_take (i := 5) (oi := { dst := some 36, op := Go.Op.move (Go.Operand.tmp 0), type := 9, pos := "law.go:103", after := #[{ on := 4, ground := Go.Ground.guard }], guard := some (4, false) }) (v := undef) rfl (by kernel_rfl) (by kernel_rfl) (by kernel_rfl) (fun _ _ _ h => h) (Or.inr ⟨by rfl, rfl⟩) (by assumption) ?_
          try simp only [Act.put, List.setIfInBounds_toArray, List.set_cons_zero, List.set_cons_succ]
          refine wpAnyH_take (i := 6) (oi := { dst := some 37, op := Go.Op.move (Go.Operand.tmp 10), type := 3, pos := "law.go:103", after := #[{ on := 4, ground := Go.Ground.guard }], guard := some (4, false) }) (v := undef) rfl (by kernel_rfl) (by kernel_rfl) (by kernel_rfl) (fun _ _ _ h => h) (Or.inr ⟨by rfl, rfl⟩) (by assumption) ?_
          try simp only [Act.put, List.setIfInBounds_toArray, List.set_cons_zero, List.set_cons_succ]
          refine wpAnyH_take (i := 7) (oi := { dst := some 38, op := Go.Op.index 9 (Go.Operand.tmp 36) (Go.Operand.tmp 37), type := 5, pos := "law.go:103", after := #[{ on := 5, ground := Go.Ground.data }, { on := 6, ground := Go.Ground.data }, { on := 4, ground := Go.Ground.guard }], guard := some (4, false) }) (v := undef) rfl (by kernel_rfl) (by kernel_rfl) (by kernel_rfl) (fun _ _ _ h => h) (Or.inr ⟨by rfl, rfl⟩) (by assumption) ?_
          try simp only [Act.put, List.setIfInBounds_toArray, List.set_cons_zero, List.set_cons_succ]
          refine wpAnyH_take (i := 8) (oi := { dst := some 39, op := Go.Op.binOp Go.BinOp.quo 5 (Go.Operand.tmp 38) (Go.Operand.const (Go.Value.int Go.IntKind.u8 64)) 5, type := 5, pos := "law.go:103", after := #[{ on := 7, ground := Go.Ground.data }, { on := 4, ground := Go.Ground.guard }], guard := some (4, false) }) (v := undef) rfl (by kernel_rfl) (by kernel_rfl) (by kernel_rfl) (fun _ _ _ h => h) (Or.inr ⟨by rfl, rfl⟩) (by assumption) ?_
          try simp only [Act.put, List.setIfInBounds_toArray, List.set_cons_zero, List.set_cons_succ]
          refine wpAnyH_take (i := 9) (oi := { dst := some 40, op := Go.Op.indexAddr 24 (Go.Operand.tmp 3) (Go.Operand.tmp 39), type := 0, pos := "law.go:103", after := #[{ on := 8, ground := Go.Ground.data }, { on := 4, ground := Go.Ground.guard }], guard := some (4, false) }) (v := undef) rfl (by kernel_rfl) (by kernel_rfl) (by kernel_rfl) (fun _ _ _ h => h) (Or.inr ⟨by rfl, rfl⟩) (by assumption) ?_
          try simp only [Act.put, List.setIfInBounds_toArray, List.set_cons_zero, List.set_cons_succ]
          refine wpAnyH_take (i := 10) (oi := { dst := some 41, op := Go.Op.load 22 (Go.Operand.tmp 40), type := 22, pos := "law.go:103", after := #[{ on := 9, ground := Go.Ground.data }, { on := 4, ground := Go.Ground.guard }], guard := some (4, false) }) (v := undef) rfl (by kernel_rfl) (by kernel_rfl) (by kernel_rfl) (fun _ _ _ h => h) (Or.inr ⟨by rfl, rfl⟩) (by assumption) ?_
          try simp only [Act.put, List.setIfInBounds_toArray, List.set_cons_zero, List.set_cons_succ]
          refine wpAnyH_take (i := 11) (oi := { dst := some 42, op := Go.Op.move (Go.Operand.tmp 0), type := 9, pos := "law.go:103", after := #[{ on := 4, ground := Go.Ground.guard }], guard := some (4, false) }) (v := undef) rfl (by kernel_rfl) (by kernel_rfl) (by kernel_rfl) (fun _ _ _ h => h) (Or.inr ⟨by rfl, rfl⟩) (by assumption) ?_
          try simp only [Act.put, List.setIfInBounds_toArray, List.set_cons_zero, List.set_cons_succ]
          refine wpAnyH_take (i := 12) (oi := { dst := some 43, op := Go.Op.move (Go.Operand.tmp 10), type := 3, pos := "law.go:103", after := #[{ on := 4, ground := Go.Ground.guard }], guard := some (4, false) }) (v := undef) rfl (by kernel_rfl) (by kernel_rfl) (by kernel_rfl) (fun _ _ _ h => h) (Or.inr ⟨by rfl, rfl⟩) (by assumption) ?_
          try simp only [Act.put, List.setIfInBounds_toArray, List.set_cons_zero, List.set_cons_succ]
          refine wpAnyH_take (i := 13) (oi := { dst := some 44, op := Go.Op.index 9 (Go.Operand.tmp 42) (Go.Operand.tmp 43), type := 5, pos := "law.go:103", after := #[{ on := 11, ground := Go.Ground.data }, { on := 12, ground := Go.Ground.data }, { on := 4, ground := Go.Ground.guard }], guard := some (4, false) }) (v := undef) rfl (by kernel_rfl) (by kernel_rfl) (by kernel_rfl) (fun _ _ _ h => h) (Or.inr ⟨by rfl, rfl⟩) (by assumption) ?_
          try simp only [Act.put, List.setIfInBounds_toArray, List.set_cons_zero, List.set_cons_succ]
          refine wpAnyH_take (i := 14) (oi := { dst := some 45, op := Go.Op.binOp Go.BinOp.rem 5 (Go.Operand.tmp 44) (Go.Operand.const (Go.Value.int Go.IntKind.u8 64)) 5, type := 5, pos := "law.go:103", after := #[{ on := 13, ground := Go.Ground.data }, { on := 4, ground := Go.Ground.guard }], guard := some (4, false) }) (v := undef) rfl (by kernel_rfl) (by kernel_rfl) (by kernel_rfl) (fun _ _ _ h => h) (Or.inr ⟨by rfl, rfl⟩) (by assumption) ?_
          try simp only [Act.put, List.setIfInBounds_toArray, List.set_cons_zero, List.set_cons_succ]
          refine wpAnyH_take (i := 15) (oi := { dst := some 46, op := Go.Op.convert 5 43 (Go.Operand.tmp 45), type := 43, pos := "law.go:103", after := #[{ on := 14, ground := Go.Ground.data }, { on := 4, ground := Go.Ground.guard }], guard := some (4, false) }) (v := undef) rfl (by kernel_rfl) (by kernel_rfl) (by kernel_rfl) (fun _ _ _ h => h) (Or.inr ⟨by rfl, rfl⟩) (by assumption) ?_
          try simp only [Act.put, List.setIfInBounds_toArray, List.set_cons_zero, List.set_cons_succ]
          refine wpAnyH_take (i := 16) (oi := { dst := some 47, op := Go.Op.binOp Go.BinOp.shr 22 (Go.Operand.tmp 41) (Go.Operand.tmp 46) 43, type := 22, pos := "law.go:103", after := #[{ on := 10, ground := Go.Ground.data }, { on := 15, ground := Go.Ground.data }, { on := 4, ground := Go.Ground.guard }], guard := some (4, false) }) (v := undef) rfl (by kernel_rfl) (by kernel_rfl) (by kernel_rfl) (fun _ _ _ h => h) (Or.inr ⟨by rfl, rfl⟩) (by assumption) ?_
          try simp only [Act.put, List.setIfInBounds_toArray, List.set_cons_zero, List.set_cons_succ]
          refine wpAnyH_take (i := 17) (oi := { dst := some 48, op := Go.Op.binOp Go.BinOp.and 22 (Go.Operand.tmp 47) (Go.Operand.const (Go.Value.int Go.IntKind.u64 1)) 22, type := 22, pos := "law.go:103", after := #[{ on := 16, ground := Go.Ground.data }, { on := 4, ground := Go.Ground.guard }], guard := some (4, false) }) (v := undef) rfl (by kernel_rfl) (by kernel_rfl) (by kernel_rfl) (fun _ _ _ h => h) (Or.inr ⟨by rfl, rfl⟩) (by assumption) ?_
          try simp only [Act.put, List.setIfInBounds_toArray, List.set_cons_zero, List.set_cons_succ]
          refine wpAnyH_take (i := 18) (oi := { dst := some 49, op := Go.Op.binOp Go.BinOp.eql 22 (Go.Operand.tmp 48) (Go.Operand.const (Go.Value.int Go.IntKind.u64 0)) 22, type := 4, pos := "law.go:103", after := #[{ on := 17, ground := Go.Ground.data }, { on := 4, ground := Go.Ground.guard }], guard := some (4, false) }) (v := undef) rfl (by kernel_rfl) (by kernel_rfl) (by kernel_rfl) (fun _ _ _ h => h) (Or.inr ⟨by rfl, rfl⟩) (by assumption) ?_
          try simp only [Act.put, List.setIfInBounds_toArray, List.set_cons_zero, List.set_cons_succ]
          refine wpAnyH_take (i := 19) (oi := { dst := some 50, op := Go.Op.pick (Go.Operand.tmp 35) (Go.Operand.const (Go.Value.bool true)) (Go.Operand.tmp 49), type := 4, pos := "law.go:103", after := #[{ on := 4, ground := Go.Ground.data }, { on := 18, ground := Go.Ground.data }], guard := none }) (v := ?_) rfl (by kernel_rfl) (by kernel_rfl) (by kernel_rfl) (fun _ _ _ h => h) (Or.inl ⟨by rfl, ?_⟩) (by assumption) ?_
          rotate_left
          focus ((intro w hSw; (try dsimp only at hSw); go_simp) <;> (with_reducible rfl))
          try simp only [Act.put, List.setIfInBounds_toArray, List.set_cons_zero, List.set_cons_succ]
          refine wpAnyH_done (by kernel_rfl) ?_ _
          refine NoPanic.normal ?_
          go_wp2_with fail
          go_meet
          exact ⟨by rw [hq0.out], Below.drew (Below.refl _ _)⟩
        · have hz37 : z ≠ 37 := fun e => h37 (by rw [← hy, e]; rfl)
          have hq0 : Hid (q = !(s.has y)) := Lib.hid (by rw [← hq, ← hy]; unfold escd; simp [hz37])
          have hy37 : (y == 37) = false := by rw [beq_eq_false_iff_ne]; exact h37
          have hy39 : ((y : Int) == 37) = false := by rw [beq_eq_false_iff_ne]; omega
          have q1 : IntKind.u8.wrap ((y : Int) / 64) = ((y / 64 : Nat) : Int) := by rw [IntKind.wrap_u8']; omega
          have q2 : ((y : Int)).tmod 64 = ((y % 64 : Nat) : Int) := by rw [Int.tmod_eq_emod_of_nonneg (by omega)]; omega
          have i1 : 0 ≤ (y : Int) / 64 ∧ (y : Int) / 64 < 4 := ⟨by omega, by omega⟩
          have i2 : 0 ≤ (y : Int) % 64 ∧ (y : Int) % 64 < 64 := ⟨by omega, by omega⟩
          have n1 : ((y : Int) / 64).toNat = y / 64 := by omega
          have n2 : ((y : Int) % 64).toNat = y % 64 := by omega
          clear hq hz37 hnext h37 hs
          refine wp_region_noPanic ?_
          refine wp_region_held_drew (S := fun wx => Below N wr wx ∧ wx.cell? ⟨w.heap.size, y / 64, none⟩ = some (.int .u64 ((s.w (y / 64)).toNat : Int))) (by kernel_rfl) ?_ (fun hHeld => ?_)
          focus ((try dsimp only); ((go_split_ands; refine ⟨?_, ?_⟩; exact Below.drew (Below.refl _ _); exact hcell)))
          try simp only [Act.put, List.setIfInBounds_toArray, List.set_cons_zero, List.set_cons_succ]
          refine wpAnyH_take (i := 0) (oi := { dst := some 31, op := Go.Op.move (Go.Operand.tmp 0), type := 9, pos := "law.go:103", after := #[], guard := none }) (v := ?_) rfl (by kernel_rfl) (by kernel_rfl) (by kernel_rfl) (fun _ _ _ h => h) (Or.inl ⟨by rfl, ?_⟩) (by assumption) ?_
          rotate_left
          focus ((intro w hSw; (try dsimp only at hSw); go_simp) <;> (with_reducible rfl))
          try simp only [Act.put, List.setIfInBounds_toArray, List.set_cons_zero, List.set_cons_succ]
          refine wpAnyH_take (i := 1) (oi := { dst := some 32, op := Go.Op.move (Go.Operand.tmp 10), type := 3, pos := "law.go:103", after := #[], guard := none }) (v := ?_) rfl (by kernel_rfl) (by kernel_rfl) (by kernel_rfl) (fun _ _ _ h => h) (Or.inl ⟨by rfl, ?_⟩) (by assumption) ?_
          rotate_left
          focus ((intro w hSw; (try dsimp only at hSw); go_simp) <;> (with_reducible rfl))
          try simp only [Act.put, List.setIfInBounds_toArray, List.set_cons_zero, List.set_cons_succ]
          refine wpAnyH_take (i := 2) (oi := { dst := some 33, op := Go.Op.index 9 (Go.Operand.tmp 31) (Go.Operand.tmp 32), type := 5, pos := "law.go:103", after := #[{ on := 0, ground := Go.Ground.data }, { on := 1, ground := Go.Ground.data }], guard := none }) (v := ?_) rfl (by kernel_rfl) (by kernel_rfl) (by kernel_rfl) (fun _ _ _ h => h) (Or.inl ⟨by rfl, ?_⟩) (by assumption) ?_
          rotate_left
          focus ((intro w hSw; (try dsimp only at hSw); go_simp) <;> (with_reducible rfl))
          try simp only [Act.put, List.setIfInBounds_toArray, List.set_cons_zero, List.set_cons_succ]
          refine wpAnyH_take (i := 3) (oi := { dst := some 34, op := Go.Op.binOp Go.BinOp.eql 5 (Go.Operand.tmp 33) (Go.Operand.const (Go.Value.int Go.IntKind.u8 37)) 5, type := 4, pos := "law.go:103", after := #[{ on := 2, ground := Go.Ground.data }], guard := none }) (v := ?_) rfl (by kernel_rfl) (by kernel_rfl) (by kernel_rfl) (fun _ _ _ h => h) (Or.inl ⟨by rfl, ?_⟩) (by assumption) ?_
          rotate_left
          focus ((intro w hSw; (try dsimp only at hSw); go_simp) <;> (with_reducible rfl))
          try simp only [Act.put, List.setIfInBounds_toArray, List.set_cons_zero, List.set_cons_succ]
          refine wpAnyH_take (i := 4) (oi := { dst := some 35, op := Go.Op.move (Go.Operand.tmp 34), type := 4, pos := "law.go:103", after := #[{ on := 3, ground := Go.Ground.data }], guard := none }) (v := ?_) rfl (by kernel_rfl) (by kernel_rfl) (by kernel_rfl) (fun _ _ _ h => h) (Or.inl ⟨by rfl, ?_⟩) (by assumption) ?_
          rotate_left
          focus ((intro w hSw; (try dsimp only at hSw); go_simp) <;> (with_reducible rfl))
          try simp only [Act.put, List.setIfInBounds_toArray, List.set_cons_zero, List.set_cons_succ]
          refine wpAnyH_take (i := 5) (oi := { dst := some 36, op := Go.Op.move (Go.Operand.tmp 0), type := 9, pos := "law.go:103", after := #[{ on := 4, ground := Go.Ground.guard }], guard := some (4, false) }) (v := ?_) rfl (by kernel_rfl) (by kernel_rfl) (by kernel_rfl) (fun _ _ _ h => h) (Or.inl ⟨by rfl, ?_⟩) (by assumption) ?_
          rotate_left
          focus ((intro w hSw; (try dsimp only at hSw); go_simp) <;> (with_reducible rfl))
          try simp only [Act.put, List.setIfInBounds_toArray, List.set_cons_zero, List.set_cons_succ]
          refine wpAnyH_take (i := 6) (oi := { dst := some 37, op := Go.Op.move (Go.Operand.tmp 10), type := 3, pos := "law.go:103", after := #[{ on := 4, ground := Go.Ground.guard }], guard := some (4, false) }) (v := ?_) rfl (by kernel_rfl) (by kernel_rfl) (by kernel_rfl) (fun _ _ _ h => h) (Or.inl ⟨by rfl, ?_⟩) (by assumption) ?_
          rotate_left
          focus ((intro w hSw; (try dsimp only at hSw); go_simp) <;> (with_reducible rfl))
          try simp only [Act.put, List.setIfInBounds_toArray, List.set_cons_zero, List.set_cons_succ]
          refine wpAnyH_take (i := 7) (oi := { dst := some 38, op := Go.Op.index 9 (Go.Operand.tmp 36) (Go.Operand.tmp 37), type := 5, pos := "law.go:103", after := #[{ on := 5, ground := Go.Ground.data }, { on := 6, ground := Go.Ground.data }, { on := 4, ground := Go.Ground.guard }], guard := some (4, false) }) (v := ?_) rfl (by kernel_rfl) (by kernel_rfl) (by kernel_rfl) (fun _ _ _ h => h) (Or.inl ⟨by rfl, ?_⟩) (by assumption) ?_
          rotate_left
          focus ((intro w hSw; (try dsimp only at hSw); go_simp) <;> (with_reducible rfl))
          try simp only [Act.put, List.setIfInBounds_toArray, List.set_cons_zero, List.set_cons_succ]
          refine wpAnyH_take (i := 8) (oi := { dst := some 39, op := Go.Op.binOp Go.BinOp.quo 5 (Go.Operand.tmp 38) (Go.Operand.const (Go.Value.int Go.IntKind.u8 64)) 5, type := 5, pos := "law.go:103", after := #[{ on := 7, ground := Go.Ground.data }, { on := 4, ground := Go.Ground.guard }], guard := some (4, false) }) (v := ?_) rfl (by kernel_rfl) (by kernel_rfl) (by kernel_rfl) (fun _ _ _ h => h) (Or.inl ⟨by rfl, ?_⟩) (by assumption) ?_
          rotate_left
          focus ((intro w hSw; (try dsimp only at hSw); go_simp) <;> (with_reducible rfl))
          try simp only [Act.put, List.setIfInBounds_toArray, List.set_cons_zero, List.set_cons_succ]
          refine wpAnyH_take (i := 9) (oi := { dst := some 40, op := Go.Op.indexAddr 24 (Go.Operand.tmp 3) (Go.Operand.tmp 39), type := 0, pos := "law.go:103", after := #[{ on := 8, ground := Go.Ground.data }, { on := 4, ground := Go.Ground.guard }], guard := some (4, false) }) (v := ?_) rfl (by kernel_rfl) (by kernel_rfl) (by kernel_rfl) (fun _ _ _ h => h) (Or.inl ⟨by rfl, ?_⟩) (by assumption) ?_
          rotate_left
          focus ((intro w hSw; (try dsimp only at hSw); go_simp) <;> (with_reducible rfl))
          try simp only [Act.put, List.setIfInBounds_toArray, List.set_cons_zero, List.set_cons_succ]
          refine wpAnyH_take (i := 10) (oi := { dst := some 41, op := Go.Op.load 22 (Go.Operand.tmp 40), type := 22, pos := "law.go:103", after := #[{ on := 9, ground := Go.Ground.data }, { on := 4, ground := Go.Ground.guard }], guard := some (4, false) }) (v := ?_) rfl (by kernel_rfl) (by kernel_rfl) (by kernel_rfl) (fun _ _ _ h => h) (Or.inl ⟨by rfl, ?_⟩) (by assumption) ?_
          rotate_left
          focus ((intro w hSw; (try dsimp only at hSw); go_simp) <;> (with_reducible rfl))
          try simp only [Act.put, List.setIfInBounds_toArray, List.set_cons_zero, List.set_cons_succ]
          refine wpAnyH_take (i := 11) (oi := { dst := some 42, op := Go.Op.move (Go.Operand.tmp 0), type := 9, pos := "law.go:103", after := #[{ on := 4, ground := Go.Ground.guard }], guard := some (4, false) }) (v := ?_) rfl (by kernel_rfl) (by kernel_rfl) (by kernel_rfl) (fun _ _ _ h => h) (Or.inl ⟨by rfl, ?_⟩) (by assumption) ?_
          rotate_left
          focus ((intro w hSw; (try dsimp only at hSw); go_simp) <;> (with_reducible rfl))
          try simp only [Act.put, List.setIfInBounds_toArray, List.set_cons_zero, List.set_cons_succ]
          refine wpAnyH_take (i := 12) (oi := { dst := some 43, op := Go.Op.move (Go.Operand.tmp 10), type := 3, pos := "law.go:103", after := #[{ on := 4, ground := Go.Ground.guard }], guard := some (4, false) }) (v := ?_) rfl (by kernel_rfl) (by kernel_rfl) (by kernel_rfl) (fun _ _ _ h => h) (Or.inl ⟨by rfl, ?_⟩) (by assumption) ?_
          rotate_left
          focus ((intro w hSw; (try dsimp only at hSw); go_simp) <;> (with_reducible rfl))
          try simp only [Act.put, List.setIfInBounds_toArray, List.set_cons_zero, List.set_cons_succ]
          refine wpAnyH_take (i := 13) (oi := { dst := some 44, op := Go.Op.index 9 (Go.Operand.tmp 42) (Go.Operand.tmp 43), type := 5, pos := "law.go:103", after := #[{ on := 11, ground := Go.Ground.data }, { on := 12, ground := Go.Ground.data }, { on := 4, ground := Go.Ground.guard }], guard := some (4, false) }) (v := ?_) rfl (by kernel_rfl) (by kernel_rfl) (by kernel_rfl) (fun _ _ _ h => h) (Or.inl ⟨by rfl, ?_⟩) (by assumption) ?_
          rotate_left
          focus ((intro w hSw; (try dsimp only at hSw); go_simp) <;> (with_reducible rfl))
          try simp only [Act.put, List.setIfInBounds_toArray, List.set_cons_zero, List.set_cons_succ]
          refine wpAnyH_take (i := 14) (oi := { dst := some 45, op := Go.Op.binOp Go.BinOp.rem 5 (Go.Operand.tmp 44) (Go.Operand.const (Go.Value.int Go.IntKind.u8 64)) 5, type := 5, pos := "law.go:103", after := #[{ on := 13, ground := Go.Ground.data }, { on := 4, ground := Go.Ground.guard }], guard := some (4, false) }) (v := ?_) rfl (by kernel_rfl) (by kernel_rfl) (by kernel_rfl) (fun _ _ _ h => h) (Or.inl ⟨by rfl, ?_⟩) (by assumption) ?_
          rotate_left
          focus ((intro w hSw; (try dsimp only at hSw); go_simp) <;> (with_reducible rfl))
          try simp only [Act.put, List.setIfInBounds_toArray, List.set_cons_zero, List.set_cons_succ]
          refine wpAnyH_take (i := 15) (oi := { dst := some 46, op := Go.Op.convert 5 43 (Go.Operand.tmp 45), type := 43, pos := "law.go:103", after := #[{ on := 14, ground := Go.Ground.data }, { on := 4, ground := Go.Ground.guard }], guard := some (4, false) }) (v := ?_) rfl (by kernel_rfl) (by kernel_rfl) (by kernel_rfl) (fun _ _ _ h => h) (Or.inl ⟨by rfl, ?_⟩) (by assumption) ?_
          rotate_left
          focus ((intro w hSw; (try dsimp only at hSw); go_simp) <;> (with_reducible rfl))
          try simp only [Act.put, List.setIfInBounds_toArray, List.set_cons_zero, List.set_cons_succ]
          refine wpAnyH_take (i := 16) (oi := { dst := some 47, op := Go.Op.binOp Go.BinOp.shr 22 (Go.Operand.tmp 41) (Go.Operand.tmp 46) 43, type := 22, pos := "law.go:103", after := #[{ on := 10, ground := Go.Ground.data }, { on := 15, ground := Go.Ground.data }, { on := 4, ground := Go.Ground.guard }], guard := some (4, false) }) (v := ?_) rfl (by kernel_rfl) (by kernel_rfl) (by kernel_rfl) (fun _ _ _ h => h) (Or.inl ⟨by rfl, ?_⟩) (by assumption) ?_
          rotate_left
          focus ((intro w hSw; (try dsimp only at hSw); go_simp) <;> (with_reducible rfl))
          try simp only [Act.put, List.setIfInBounds_toArray, List.set_cons_zero, List.set_cons_succ]
          refine wpAnyH_take (i := 17) (oi := { dst := some 48, op := Go.Op.binOp Go.BinOp.and 22 (Go.Operand.tmp 47) (Go.Operand.const (Go.Value.int Go.IntKind.u64 1)) 22, type := 22, pos := "law.go:103", after := #[{ on := 16, ground := Go.Ground.data }, { on := 4, ground := Go.Ground.guard }], guard := some (4, false) }) (v := ?_) rfl (by kernel_rfl) (by kernel_rfl) (by kernel_rfl) (fun _ _ _ h => h) (Or.inl ⟨by rfl, ?_⟩) (by assumption) ?_
          rotate_left
          focus ((intro w hSw; (try dsimp only at hSw); go_simp) <;> (with_reducible rfl))
          try simp only [Act.put, List.setIfInBounds_toArray, List.set_cons_zero, List.set_cons_succ]
          refine wpAnyH_take (i := 18) (oi := { dst := some 49, op := Go.Op.binOp Go.BinOp.eql 22 (Go.Operand.tmp 48) (Go.Operand.const (Go.Value.int Go.IntKind.u64 0)) 22, type := 4, pos := "law.go:103", after := #[{ on := 17, ground := Go.Ground.data }, { on := 4, ground := Go.Ground.guard }], guard := some (4, false) }) (v := ?_) rfl (by kernel_rfl) (by kernel_rfl) (by kernel_rfl) (fun _ _ _ h => h) (Or.inl ⟨by rfl, ?_⟩) (by assumption) ?_
          rotate_left
          focus ((intro w hSw; (try dsimp only at hSw); go_simp) <;> (with_reducible rfl))
          try simp only [Act.put, List.setIfInBounds_toArray, List.set_cons_zero, List.set_cons_succ]
          refine wpAnyH_take (i := 19) (oi := { dst := some 50, op := Go.Op.pick (Go.Operand.tmp 35) (Go.Operand.const (Go.Value.bool true)) (Go.Operand.tmp 49), type := 4, pos := "law.go:103", after := #[{ on := 4, ground := Go.Ground.data }, { on := 18, ground := Go.Ground.data }], guard := none }) (v := ?_) rfl (by kernel_rfl) (by kernel_rfl) (by kernel_rfl) (fun _ _ _ h => h) (Or.inl ⟨by rfl, ?_⟩) (by assumption) ?_
          rotate_left
          focus ((intro w hSw; (try dsimp only at hSw); go_simp) <;> (with_reducible rfl))
          try simp only [Act.put, List.setIfInBounds_toArray, List.set_cons_zero, List.set_cons_succ]
          refine wpAnyH_done (by kernel_rfl) ?_ _
          refine NoPanic.normal ?_
          go_wp2_with fail
          go_meet
          have e1 : IntKind.u64.wrap ((y : Int) % 64) = ((y % 64 : Nat) : Int) := by
            simp only [IntKind.wrap, IntKind.bits, IntKind.signed]
            simp
            omega
          refine ⟨?_, Below.drew (Below.refl _ _)⟩
          rw [e1, Int.toNat_natCast, Nat.min_eq_left (by omega), bit_zero, hq0.out]
          rfl
      case rest =>
      obtain ⟨rfl, hb⟩ := hcut
      have a0 := a0.below hb a0.lt
      have F1 : FBlk wc A2 0 0 := (hb.block _ F1.lt).trans F1
      have hB := hB.trans (hb.mono hB.size)
      clear hb hN hcell l1 hq hs hz hy
      cases q
      · go_wp2_with fail
        go_roundw
        case rel => exact ⟨k + 1, m, by omega, by go_num, rfl, by omega, Lib.hid (by rw [hnext.out]; rfl), a0, F1, hB⟩
        case measure => simp [intOf]; omega
      · go_wp2_with fail
        go_roundw
        case rel => exact ⟨k + 1, m + 1, by omega, by go_num, by go_num, by omega, Lib.hid (by rw [hnext.out]; rfl), a0, F1, hB⟩
        case measure => simp [intOf]; omega
    · obtain rfl : k = l.length := by omega
      have hTlen : Hid ((T.length : Int) = (l.length : Int) + 2 * (m : Int)) := Lib.hid (by
        have := hc.out
        rw [List.take_length, HT.out] at this
        omega)
      clear hc
      obtain ⟨t, ht⟩ : ∃ t : Nat, Hid (T.length = t) := ⟨_, Lib.hid rfl⟩
      have ht2 : Hid ((l.length : Int) + 2 * (m : Int) = (t : Int)) := Lib.hid (by rw [← ht.out]; exact hTlen.out.symm)
      go_wp2_with fail
      refine (says_any T l hTl _).mono ?_
      rintro y v1 ⟨rfl, hb⟩
      rw [HS.out]
      have a0 : Blk v1 w.heap.size ⟨a, b, c, d⟩ := a0.below hb a0.lt
      have F1 : FBlk v1 A2 0 0 := (hb.block _ F1.lt).trans F1
      have hB := hB.trans (hb.mono hB.size)
      clear hb
      obtain ⟨xF10, xF11, -, -⟩ := F1.cells
      obtain ⟨xa00, xa01, xa02, xa03⟩ := a0.cells
      go_wp2_with fail
      clear xF10 xF11
      clear xa00 xa01 xa02 xa03
      refine (is_any T hTl a b c d _).mono ?_
      rintro y v2 ⟨rfl, hb⟩
      rw [HI.out]
      have a0 : Blk v2 w.heap.size ⟨a, b, c, d⟩ := a0.below hb a0.lt
      have F1 : FBlk v2 A2 0 0 := (hb.block _ F1.lt).trans F1
      have hB := hB.trans (hb.mono hB.size)
      clear hb
      obtain ⟨xa00, xa01, xa02, xa03⟩ := a0.cells
      go_wp2_with fail
      clear xa00 xa01 xa02 xa03
      refine (length_any l hl2 a b c d _).mono ?_
      rintro y v3 ⟨rfl, hb⟩
      rw [HT.out]
      have a0 : Blk v3 w.heap.size ⟨a, b, c, d⟩ := a0.below hb a0.lt
      have F1 : FBlk v3 A2 0 0 := (hb.block _ F1.lt).trans F1
      have hB := hB.trans (hb.mono hB.size)
      clear hb
      go_wp2_with fail
      go_ret
      exact ⟨rfl, hB⟩
end Go.Proofs.Ytheajdgdllobbaa
