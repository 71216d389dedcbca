/-
  The law BytesetTexts returns true, for every set and every two strings. The table of math/bits must lie in its variable.
-/
import Derived.Test.YtbpnhiejmkeclaaDoorOnesLaw
import Derived.Test.YtbpnhiejmkeclaaDoorRefAll
import Derived.Test.YtbpnhiejmkeclaaDoorRefText
import Derived.Test.YtbpnhiejmkeclaaDoorRefParse
import Derived.Test.YtbpnhiejmkeclaaDoorAll
namespace Go.Proofs.YtbpnhiejmkeclaaDoor
open Go.RowKit
attribute [local go_sem] eq_sets w_0 w_1 w_2 w_3
theorem held3t {N : Nat} {W wx : World} {B C F : Nat} {a b c d : BitVec 64} {e f g h : BitVec 64} {f0 f1 f2 f3 : BitVec 64} (hN : W.heap.size = N) (hB : Blk W B ⟨a, b, c, d⟩) (hC : Blk W C ⟨e, f, g, h⟩) (hF : Blk W F ⟨f0, f1, f2, f3⟩) (lB : B < W.heap.size) (lC : C < W.heap.size) (lF : F < W.heap.size) (hb : Below N W wx) :
    Below N W wx ∧ wx.cell? ⟨B, 0, none⟩ = some (.int .u64 (a.toNat : Int)) ∧ wx.cell? ⟨B, 1, none⟩ = some (.int .u64 (b.toNat : Int)) ∧ wx.cell? ⟨B, 2, none⟩ = some (.int .u64 (c.toNat : Int)) ∧ wx.cell? ⟨B, 3, none⟩ = some (.int .u64 (d.toNat : Int)) ∧ wx.cell? ⟨C, 0, none⟩ = some (.int .u64 (e.toNat : Int)) ∧ wx.cell? ⟨C, 1, none⟩ = some (.int .u64 (f.toNat : Int)) ∧ wx.cell? ⟨C, 2, none⟩ = some (.int .u64 (g.toNat : Int)) ∧ wx.cell? ⟨C, 3, none⟩ = some (.int .u64 (h.toNat : Int)) ∧ wx.cell? ⟨F, 0, none⟩ = some (.int .u64 (f0.toNat : Int)) ∧ wx.cell? ⟨F, 1, none⟩ = some (.int .u64 (f1.toNat : Int)) ∧ wx.cell? ⟨F, 2, none⟩ = some (.int .u64 (f2.toNat : Int)) ∧ wx.cell? ⟨F, 3, none⟩ = some (.int .u64 (f3.toNat : Int)) := by
  have cB := (hB.below hb (hN ▸ lB)).cells
  have cC := (hC.below hb (hN ▸ lC)).cells
  have cF := (hF.below hb (hN ▸ lF)).cells
  exact ⟨hb, cB.1, cB.2.1, cB.2.2.1, cB.2.2.2, cC.1, cC.2.1, cC.2.2.1, cC.2.2.2, cF.1, cF.2.1, cF.2.2.1, cF.2.2.2⟩
theorem parseV_shape (r : Except Nat WSet) : ∃ (p0 p1 p2 p3 : BitVec 64) (x : Nat), Hid (parseV r = .tuple #[.agg #[.int .u64 p0.toNat, .int .u64 p1.toNat, .int .u64 p2.toNat, .int .u64 p3.toNat], .int .i64 (x : Int)]) := by
  cases r with
  | error e => exact ⟨0, 0, 0, 0, e, Lib.hid rfl⟩
  | ok s => exact ⟨s.a, s.b, s.c, s.d, 0, Lib.hid rfl⟩
set_option maxHeartbeats 4000000 in
theorem texts_law (a b c d : BitVec 64) (l1 l2 : List UInt8) (w : World) (hT : Tab w) (h0w : 0 < w.heap.size) :
    Calls Tryd.prog 5 #[.agg #[.int .u64 a.toNat, .int .u64 b.toNat, .int .u64 c.toNat, .int .u64 d.toNat], .string ⟨l1.toArray⟩, .string ⟨l2.toArray⟩] w fun e w' => e = .returned (.bool true) ∧ Below w.heap.size w w' := by
  have b1 := Blk.new w ⟨a, b, c, d⟩
  have hB : Below w.heap.size w (w.alloc (.cells #[.int .u64 a.toNat, .int .u64 b.toNat, .int .u64 c.toNat, .int .u64 d.toNat] 24)) := by go_grown
  have hT1 := hT.below hB h0w
  have h01 := Nat.lt_of_lt_of_le h0w hB.size
  by_cases hlong : l1.length ≤ 1100 ∧ l2.length ≤ 1100
  · obtain ⟨g1, g2⟩ := hlong
    have hl1 : l1.length < 9223372036854775807 := by omega
    have d1 : decide (1100 < (l1.length : Int)) = false := decide_eq_false (by omega)
    have d2 : decide (1100 < (l2.length : Int)) = false := decide_eq_false (by omega)
    have hl2m : (ByteArray.mk l2.toArray).size ≤ maxLen := by rw [ba_size]; unfold maxLen; omega
    have hl2s : l2.length < 1000000 := by omega
    obtain ⟨T, htx⟩ : ∃ T, Hid ((textOf ⟨a, b, c, d⟩).map UInt8.ofNat = T) := ⟨_, Lib.hid rfl⟩
    obtain ⟨q, hq⟩ : ∃ q, Hid ((l2.all fun x => (WSet.mk a b c d).has x.toNat) = q) := ⟨_, Lib.hid rfl⟩
    obtain ⟨p0, p1, p2, p3, x, hpv⟩ := parseV_shape (parseOf l1)
    go_enter Tryd.func5, Tryd.ntmps5
    go_wp2_with fail
    obtain ⟨w1, hw1⟩ : ∃ W, w.alloc (.cells #[.int .u64 a.toNat, .int .u64 b.toNat, .int .u64 c.toNat, .int .u64 d.toNat] 24) = W := ⟨_, rfl⟩
    rw [hw1] at b1 hB hT1 h01 ⊢
    clear hw1
    refine (parse_any l1 hl1 _).mono ?_
    rintro z w2 ⟨rfl, hb⟩
    rw [hpv.out]
    have b1 := b1.below hb b1.lt
    have hT2 := hT1.below hb h01
    have h02 := Nat.lt_of_lt_of_le h01 hb.size
    have hB := hB.trans (hb.mono hB.size)
    clear hb hT1 h01
    have bA := Blk.new w2 ⟨p0, p1, p2, p3⟩
    have b1 := b1.alloc (.cells #[.int .u64 p0.toNat, .int .u64 p1.toNat, .int .u64 p2.toNat, .int .u64 p3.toNat] 24)
    have hb : Below w2.heap.size w2 (w2.alloc (.cells #[.int .u64 p0.toNat, .int .u64 p1.toNat, .int .u64 p2.toNat, .int .u64 p3.toNat] 24)) := by go_grown
    have hT3 := hT2.below hb h02
    have h03 := Nat.lt_of_lt_of_le h02 hb.size
    have hB := hB.trans (hb.mono hB.size)
    clear hb hT2 h02
    go_wp2_with fail
    obtain ⟨A, hA⟩ : ∃ A, w2.heap.size = A := ⟨_, rfl⟩
    obtain ⟨w3, hw3⟩ : ∃ W, w2.alloc (.cells #[.int .u64 p0.toNat, .int .u64 p1.toNat, .int .u64 p2.toNat, .int .u64 p3.toNat] 24) = W := ⟨_, rfl⟩
    rw [hA] at bA ⊢
    rw [hw3] at bA b1 hB hT3 h03 ⊢
    clear hA hw3
    refine (refParse_any l1 hl1 _).mono ?_
    rintro z w4 ⟨rfl, hb⟩
    rw [hpv.out]
    have b1 := b1.below hb b1.lt
    have bA := bA.below hb bA.lt
    have hT2 := hT3.below hb h03
    have h02 := Nat.lt_of_lt_of_le h03 hb.size
    have hB := hB.trans (hb.mono hB.size)
    clear hb hT3 h03
    have bB := Blk.new w4 ⟨p0, p1, p2, p3⟩
    have b1 := b1.alloc (.cells #[.int .u64 p0.toNat, .int .u64 p1.toNat, .int .u64 p2.toNat, .int .u64 p3.toNat] 24)
    have bA := bA.alloc (.cells #[.int .u64 p0.toNat, .int .u64 p1.toNat, .int .u64 p2.toNat, .int .u64 p3.toNat] 24)
    have hb : Below w4.heap.size w4 (w4.alloc (.cells #[.int .u64 p0.toNat, .int .u64 p1.toNat, .int .u64 p2.toNat, .int .u64 p3.toNat] 24)) := by go_grown
    have hT4 := hT2.below hb h02
    have h04 := Nat.lt_of_lt_of_le h02 hb.size
    have hB := hB.trans (hb.mono hB.size)
    clear hb hT2 h02
    go_upto_region 5 with fail
    obtain ⟨B, hBe⟩ : ∃ A, w4.heap.size = A := ⟨_, rfl⟩
    obtain ⟨W, hW⟩ : ∃ W, w4.alloc (.cells #[.int .u64 p0.toNat, .int .u64 p1.toNat, .int .u64 p2.toNat, .int .u64 p3.toNat] 24) = W := ⟨_, rfl⟩
    rw [hBe] at bB ⊢
    rw [hW] at bB bA b1 hB hT4 h04 ⊢
    clear hBe hW
    have l1' := b1.lt
    have lA := bA.lt
    have lB := bB.lt
    obtain ⟨N, hN⟩ : ∃ N, Hid (W.heap.size = N) := ⟨_, Lib.hid rfl⟩
    refine wp_region_noPanic ?_
    refine wp_region_held_drew (S := fun wx => Below N W wx ∧ wx.cell? ⟨w.heap.size, 0, none⟩ = some (.int .u64 (a.toNat : Int)) ∧ wx.cell? ⟨w.heap.size, 1, none⟩ = some (.int .u64 (b.toNat : Int)) ∧ wx.cell? ⟨w.heap.size, 2, none⟩ = some (.int .u64 (c.toNat : Int)) ∧ wx.cell? ⟨w.heap.size, 3, none⟩ = some (.int .u64 (d.toNat : Int)) ∧ wx.cell? ⟨A, 0, none⟩ = some (.int .u64 (p0.toNat : Int)) ∧ wx.cell? ⟨A, 1, none⟩ = some (.int .u64 (p1.toNat : Int)) ∧ wx.cell? ⟨A, 2, none⟩ = some (.int .u64 (p2.toNat : Int)) ∧ wx.cell? ⟨A, 3, none⟩ = some (.int .u64 (p3.toNat : Int)) ∧ wx.cell? ⟨B, 0, none⟩ = some (.int .u64 (p0.toNat : Int)) ∧ wx.cell? ⟨B, 1, none⟩ = some (.int .u64 (p1.toNat : Int)) ∧ wx.cell? ⟨B, 2, none⟩ = some (.int .u64 (p2.toNat : Int)) ∧ wx.cell? ⟨B, 3, none⟩ = some (.int .u64 (p3.toNat : Int))) (by kernel_rfl) ?_ (fun hHeld => ?_)
    focus ((try dsimp only); ((go_split_ands; refine held3t hN.out b1 bA bB l1' lA lB ?_; have hN := hN.out; repeat' (first | (with_reducible assumption) | (with_reducible exact Below.refl _ _) | (with_reducible refine Below.drew ?_) | (with_reducible refine Below.allocS hN ?_) | (refine Below.transS (wx := ?_) hN ?_ ?_; rotate_left 2; assumption)))))
    try simp only [Act.put, List.setIfInBounds_toArray, List.set_cons_zero, List.set_cons_succ]
    refine wpAnyH_take (i := 0) (oi := { dst := some 30, op := Go.Op.load 24 (Go.Operand.tmp 3), type := 24, pos := "law.go:55", after := #[], guard := none }) (v := ?_) rfl (by kernel_rfl) (by kernel_rfl) (by kernel_rfl) (fun _ _ _ h => h) (Or.inl ⟨by rfl, ?_⟩) (by assumption) ?_
    rotate_left
    focus ((intro w hSw; (try dsimp only at hSw); go_simp) <;> (with_reducible rfl))
    try simp only [Act.put, List.setIfInBounds_toArray, List.set_cons_zero, List.set_cons_succ]
    refine wpAnyH_take (i := 2) (oi := { dst := some 32, op := Go.Op.load 24 (Go.Operand.tmp 3), type := 24, pos := "law.go:55", after := #[], guard := none }) (v := ?_) rfl (by kernel_rfl) (by kernel_rfl) (by kernel_rfl) (fun _ _ _ h => h) (Or.inl ⟨by rfl, ?_⟩) (by assumption) ?_
    rotate_left
    focus ((intro w hSw; (try dsimp only at hSw); go_simp) <;> (with_reducible rfl))
    try simp only [Act.put, List.setIfInBounds_toArray, List.set_cons_zero, List.set_cons_succ]
    refine wpAnyH_ready (rs := [1]) (by kernel_rfl) (by simp) ?_
    refine AllReadyH.cons (o := { dst := some 31, op := Go.Op.call { callee := Go.Callee.value (Go.Operand.func 33), args := #[Go.Operand.tmp 30], argTypes := #[24] }, type := 9, pos := "law.go:55", after := #[{ on := 0, ground := Go.Ground.data }], guard := none }) rfl (fun K hK => ?_) AllReadyH.nil
    go_simp
    (go_at_call 33; refine (text_any a b c d _ (tabAt hN.out hT4 h04 hHeld.1) (tabLt h04 hHeld.1)).mono ?_; rintro e w' ⟨rfl, hb⟩; rw [htx.out])
    first | (go_wp2_with fail) | skip
    refine hK.out _ _ ?_ (fun hNew => ?_)
    focus ((try dsimp only); ((go_split_ands; refine held3t hN.out b1 bA bB l1' lA lB ?_; have hN := hN.out; repeat' (first | (with_reducible assumption) | (with_reducible exact Below.refl _ _) | (with_reducible refine Below.drew ?_) | (with_reducible refine Below.allocS hN ?_) | (refine Below.transS (wx := ?_) hN ?_ ?_; rotate_left 2; assumption)))))
    clear hK K hHeld
    have hHeld := hNew
    clear hNew
    try simp only [Act.put, List.setIfInBounds_toArray, List.set_cons_zero, List.set_cons_succ]
    refine wpAnyH_ready (rs := [3]) (by kernel_rfl) (by simp) ?_
    refine AllReadyH.cons (o := { dst := some 33, op := Go.Op.call { callee := Go.Callee.value (Go.Operand.func 34), args := #[Go.Operand.tmp 32], argTypes := #[24] }, type := 9, pos := "law.go:55", after := #[{ on := 2, ground := Go.Ground.data }, { on := 1, ground := Go.Ground.chain }], guard := none }) rfl (fun K hK => ?_) AllReadyH.nil
    go_simp
    (go_at_call 34; refine (refText_any a b c d _).mono ?_; rintro e w' ⟨rfl, hb⟩; rw [show u8s (textOf ⟨a, b, c, d⟩) = T from htx.out])
    first | (go_wp2_with fail) | skip
    refine hK.out _ _ ?_ (fun hNew => ?_)
    focus ((try dsimp only); ((go_split_ands; refine held3t hN.out b1 bA bB l1' lA lB ?_; have hN := hN.out; repeat' (first | (with_reducible assumption) | (with_reducible exact Below.refl _ _) | (with_reducible refine Below.drew ?_) | (with_reducible refine Below.allocS hN ?_) | (refine Below.transS (wx := ?_) hN ?_ ?_; rotate_left 2; assumption)))))
    clear hK K hHeld
    have hHeld := hNew
    clear hNew
    try simp only [Act.put, List.setIfInBounds_toArray, List.set_cons_zero, List.set_cons_succ]
    refine wpAnyH_take (i := 4) (oi := { dst := some 34, op := Go.Op.binOp Go.BinOp.eql 9 (Go.Operand.tmp 31) (Go.Operand.tmp 33) 9, type := 4, pos := "law.go:55", after := #[{ on := 1, ground := Go.Ground.data }, { on := 3, ground := Go.Ground.data }], guard := none }) (v := ?_) rfl (by kernel_rfl) (by kernel_rfl) (by kernel_rfl) (fun _ _ _ h => h) (Or.inl ⟨by rfl, ?_⟩) (by assumption) ?_
    rotate_left
    focus ((intro w hSw; (try dsimp only at hSw); go_simp) <;> (with_reducible rfl))
    try simp only [Act.put, List.setIfInBounds_toArray, List.set_cons_zero, List.set_cons_succ]
    refine wpAnyH_take (i := 5) (oi := { dst := some 35, op := Go.Op.move (Go.Operand.tmp 34), type := 4, pos := "law.go:55", after := #[{ on := 4, ground := Go.Ground.data }, { on := 3, ground := Go.Ground.chain }], guard := none }) (v := ?_) rfl (by kernel_rfl) (by kernel_rfl) (by kernel_rfl) (fun _ _ _ h => h) (Or.inl ⟨by rfl, ?_⟩) (by assumption) ?_
    rotate_left
    focus ((intro w hSw; (try dsimp only at hSw); go_simp) <;> (with_reducible rfl))
    try simp only [Act.put, List.setIfInBounds_toArray, List.set_cons_zero, List.set_cons_succ]
    refine wpAnyH_take (i := 6) (oi := { dst := some 36, op := Go.Op.load 24 (Go.Operand.tmp 7), type := 24, pos := "law.go:55", after := #[{ on := 5, ground := Go.Ground.guard }], guard := some (5, true) }) (v := ?_) rfl (by kernel_rfl) (by kernel_rfl) (by kernel_rfl) (fun _ _ _ h => h) (Or.inl ⟨by rfl, ?_⟩) (by assumption) ?_
    rotate_left
    focus ((intro w hSw; (try dsimp only at hSw); go_simp) <;> (with_reducible rfl))
    try simp only [Act.put, List.setIfInBounds_toArray, List.set_cons_zero, List.set_cons_succ]
    refine wpAnyH_take (i := 7) (oi := { dst := some 37, op := Go.Op.load 24 (Go.Operand.tmp 9), type := 24, pos := "law.go:55", after := #[{ on := 5, ground := Go.Ground.guard }], guard := some (5, true) }) (v := ?_) rfl (by kernel_rfl) (by kernel_rfl) (by kernel_rfl) (fun _ _ _ h => h) (Or.inl ⟨by rfl, ?_⟩) (by assumption) ?_
    rotate_left
    focus ((intro w hSw; (try dsimp only at hSw); go_simp) <;> (with_reducible rfl))
    try simp only [Act.put, List.setIfInBounds_toArray, List.set_cons_zero, List.set_cons_succ]
    refine wpAnyH_take (i := 8) (oi := { dst := some 38, op := Go.Op.binOp Go.BinOp.eql 24 (Go.Operand.tmp 36) (Go.Operand.tmp 37) 24, type := 4, pos := "law.go:55", after := #[{ on := 6, ground := Go.Ground.data }, { on := 7, ground := Go.Ground.data }, { on := 5, ground := Go.Ground.guard }], guard := some (5, true) }) (v := ?_) rfl (by kernel_rfl) (by kernel_rfl) (by kernel_rfl) (fun _ _ _ h => h) (Or.inl ⟨by rfl, ?_⟩) (by assumption) ?_
    rotate_left
    focus ((intro w hSw; (try dsimp only at hSw); go_simp) <;> (with_reducible rfl))
    try simp only [Act.put, List.setIfInBounds_toArray, List.set_cons_zero, List.set_cons_succ]
    refine wpAnyH_take (i := 9) (oi := { dst := some 39, op := Go.Op.pick (Go.Operand.tmp 35) (Go.Operand.tmp 38) (Go.Operand.const (Go.Value.bool false)), type := 4, pos := "law.go:55", after := #[{ on := 5, ground := Go.Ground.data }, { on := 8, ground := Go.Ground.data }], guard := none }) (v := ?_) rfl (by kernel_rfl) (by kernel_rfl) (by kernel_rfl) (fun _ _ _ h => h) (Or.inl ⟨by rfl, ?_⟩) (by assumption) ?_
    rotate_left
    focus ((intro w hSw; (try dsimp only at hSw); go_simp) <;> (with_reducible rfl))
    try simp only [Act.put, List.setIfInBounds_toArray, List.set_cons_zero, List.set_cons_succ]
    refine wpAnyH_take (i := 10) (oi := { dst := some 40, op := Go.Op.move (Go.Operand.tmp 39), type := 4, pos := "law.go:55", after := #[{ on := 9, ground := Go.Ground.data }, { on := 5, ground := Go.Ground.chain }], guard := none }) (v := ?_) rfl (by kernel_rfl) (by kernel_rfl) (by kernel_rfl) (fun _ _ _ h => h) (Or.inl ⟨by rfl, ?_⟩) (by assumption) ?_
    rotate_left
    focus ((intro w hSw; (try dsimp only at hSw); go_simp) <;> (with_reducible rfl))
    try simp only [Act.put, List.setIfInBounds_toArray, List.set_cons_zero, List.set_cons_succ]
    refine wpAnyH_take (i := 11) (oi := { dst := some 41, op := Go.Op.move (Go.Operand.tmp 8), type := 28, pos := "law.go:55", after := #[{ on := 10, ground := Go.Ground.guard }], guard := some (10, true) }) (v := ?_) rfl (by kernel_rfl) (by kernel_rfl) (by kernel_rfl) (fun _ _ _ h => h) (Or.inl ⟨by rfl, ?_⟩) (by assumption) ?_
    rotate_left
    focus ((intro w hSw; (try dsimp only at hSw); go_simp) <;> (with_reducible rfl))
    try simp only [Act.put, List.setIfInBounds_toArray, List.set_cons_zero, List.set_cons_succ]
    refine wpAnyH_take (i := 12) (oi := { dst := some 42, op := Go.Op.move (Go.Operand.tmp 10), type := 28, pos := "law.go:55", after := #[{ on := 10, ground := Go.Ground.guard }], guard := some (10, true) }) (v := ?_) rfl (by kernel_rfl) (by kernel_rfl) (by kernel_rfl) (fun _ _ _ h => h) (Or.inl ⟨by rfl, ?_⟩) (by assumption) ?_
    rotate_left
    focus ((intro w hSw; (try dsimp only at hSw); go_simp) <;> (with_reducible rfl))
    try simp only [Act.put, List.setIfInBounds_toArray, List.set_cons_zero, List.set_cons_succ]
    refine wpAnyH_take (i := 13) (oi := { dst := some 43, op := Go.Op.binOp Go.BinOp.eql 28 (Go.Operand.tmp 41) (Go.Operand.tmp 42) 28, type := 4, pos := "law.go:55", after := #[{ on := 11, ground := Go.Ground.data }, { on := 12, ground := Go.Ground.data }, { on := 10, ground := Go.Ground.guard }], guard := some (10, true) }) (v := ?_) rfl (by kernel_rfl) (by kernel_rfl) (by kernel_rfl) (fun _ _ _ h => h) (Or.inl ⟨by rfl, ?_⟩) (by assumption) ?_
    rotate_left
    focus ((intro w hSw; (try dsimp only at hSw); go_simp) <;> (with_reducible rfl))
    try simp only [Act.put, List.setIfInBounds_toArray, List.set_cons_zero, List.set_cons_succ]
    refine wpAnyH_take (i := 14) (oi := { dst := some 44, op := Go.Op.pick (Go.Operand.tmp 40) (Go.Operand.tmp 43) (Go.Operand.const (Go.Value.bool false)), type := 4, pos := "law.go:55", after := #[{ on := 10, ground := Go.Ground.data }, { on := 13, ground := Go.Ground.data }], guard := none }) (v := ?_) rfl (by kernel_rfl) (by kernel_rfl) (by kernel_rfl) (fun _ _ _ h => h) (Or.inl ⟨by rfl, ?_⟩) (by assumption) ?_
    rotate_left
    focus ((intro w hSw; (try dsimp only at hSw); go_simp) <;> (with_reducible rfl))
    try simp only [Act.put, List.setIfInBounds_toArray, List.set_cons_zero, List.set_cons_succ]
    refine wpAnyH_take (i := 15) (oi := { dst := some 45, op := Go.Op.move (Go.Operand.tmp 44), type := 4, pos := "law.go:55", after := #[{ on := 14, ground := Go.Ground.data }, { on := 10, ground := Go.Ground.chain }], guard := none }) (v := ?_) rfl (by kernel_rfl) (by kernel_rfl) (by kernel_rfl) (fun _ _ _ h => h) (Or.inl ⟨by rfl, ?_⟩) (by assumption) ?_
    rotate_left
    focus ((intro w hSw; (try dsimp only at hSw); go_simp) <;> (with_reducible rfl))
    try simp only [Act.put, List.setIfInBounds_toArray, List.set_cons_zero, List.set_cons_succ]
    refine wpAnyH_take (i := 16) (oi := { dst := some 46, op := Go.Op.load 24 (Go.Operand.tmp 3), type := 24, pos := "law.go:55", after := #[{ on := 15, ground := Go.Ground.guard }], guard := some (15, true) }) (v := ?_) rfl (by kernel_rfl) (by kernel_rfl) (by kernel_rfl) (fun _ _ _ h => h) (Or.inl ⟨by rfl, ?_⟩) (by assumption) ?_
    rotate_left
    focus ((intro w hSw; (try dsimp only at hSw); go_simp) <;> (with_reducible rfl))
    try simp only [Act.put, List.setIfInBounds_toArray, List.set_cons_zero, List.set_cons_succ]
    refine wpAnyH_take (i := 17) (oi := { dst := some 47, op := Go.Op.move (Go.Operand.tmp 2), type := 9, pos := "law.go:55", after := #[{ on := 15, ground := Go.Ground.guard }], guard := some (15, true) }) (v := ?_) rfl (by kernel_rfl) (by kernel_rfl) (by kernel_rfl) (fun _ _ _ h => h) (Or.inl ⟨by rfl, ?_⟩) (by assumption) ?_
    rotate_left
    focus ((intro w hSw; (try dsimp only at hSw); go_simp) <;> (with_reducible rfl))
    try simp only [Act.put, List.setIfInBounds_toArray, List.set_cons_zero, List.set_cons_succ]
    refine wpAnyH_take (i := 19) (oi := { dst := some 49, op := Go.Op.load 24 (Go.Operand.tmp 3), type := 24, pos := "law.go:55", after := #[{ on := 15, ground := Go.Ground.guard }], guard := some (15, true) }) (v := ?_) rfl (by kernel_rfl) (by kernel_rfl) (by kernel_rfl) (fun _ _ _ h => h) (Or.inl ⟨by rfl, ?_⟩) (by assumption) ?_
    rotate_left
    focus ((intro w hSw; (try dsimp only at hSw); go_simp) <;> (with_reducible rfl))
    try simp only [Act.put, List.setIfInBounds_toArray, List.set_cons_zero, List.set_cons_succ]
    refine wpAnyH_take (i := 20) (oi := { dst := some 50, op := Go.Op.move (Go.Operand.tmp 2), type := 9, pos := "law.go:55", after := #[{ on := 15, ground := Go.Ground.guard }], guard := some (15, true) }) (v := ?_) rfl (by kernel_rfl) (by kernel_rfl) (by kernel_rfl) (fun _ _ _ h => h) (Or.inl ⟨by rfl, ?_⟩) (by assumption) ?_
    rotate_left
    focus ((intro w hSw; (try dsimp only at hSw); go_simp) <;> (with_reducible rfl))
    try simp only [Act.put, List.setIfInBounds_toArray, List.set_cons_zero, List.set_cons_succ]
    refine wpAnyH_ready (rs := [18]) (by kernel_rfl) (by simp) ?_
    refine AllReadyH.cons (o := { dst := some 48, op := Go.Op.call { callee := Go.Callee.value (Go.Operand.func 35), args := #[Go.Operand.tmp 46, Go.Operand.tmp 47], argTypes := #[24, 9] }, type := 4, pos := "law.go:55", after := #[{ on := 16, ground := Go.Ground.data }, { on := 17, ground := Go.Ground.data }, { on := 15, ground := Go.Ground.chain }, { on := 15, ground := Go.Ground.guard }], guard := some (15, true) }) rfl (fun K hK => ?_) AllReadyH.nil
    go_simp
    (go_at_call 35; refine (all_any a b c d ⟨l2.toArray⟩ hl2m _).mono ?_; rintro e w' ⟨rfl, hb⟩; rw [bytesN_mk, allB_all, hq.out])
    first | (go_wp2_with fail) | skip
    refine hK.out _ _ ?_ (fun hNew => ?_)
    focus ((try dsimp only); ((go_split_ands; refine held3t hN.out b1 bA bB l1' lA lB ?_; have hN := hN.out; repeat' (first | (with_reducible assumption) | (with_reducible exact Below.refl _ _) | (with_reducible refine Below.drew ?_) | (with_reducible refine Below.allocS hN ?_) | (refine Below.transS (wx := ?_) hN ?_ ?_; rotate_left 2; assumption)))))
    clear hK K hHeld
    have hHeld := hNew
    clear hNew
    try simp only [Act.put, List.setIfInBounds_toArray, List.set_cons_zero, List.set_cons_succ]
    refine wpAnyH_ready (rs := [21]) (by kernel_rfl) (by simp) ?_
    refine AllReadyH.cons (o := { dst := some 51, op := Go.Op.call { callee := Go.Callee.value (Go.Operand.func 36), args := #[Go.Operand.tmp 49, Go.Operand.tmp 50], argTypes := #[24, 9] }, type := 4, pos := "law.go:55", after := #[{ on := 19, ground := Go.Ground.data }, { on := 20, ground := Go.Ground.data }, { on := 18, ground := Go.Ground.chain }, { on := 15, ground := Go.Ground.guard }], guard := some (15, true) }) rfl (fun K hK => ?_) AllReadyH.nil
    go_simp
    (go_at_call 36; refine (refAll_any a b c d l2 hl2s _).mono ?_; rintro e w' ⟨rfl, hb⟩; rw [hq.out])
    first | (go_wp2_with fail) | skip
    refine hK.out _ _ ?_ (fun hNew => ?_)
    focus ((try dsimp only); ((go_split_ands; refine held3t hN.out b1 bA bB l1' lA lB ?_; have hN := hN.out; repeat' (first | (with_reducible assumption) | (with_reducible exact Below.refl _ _) | (with_reducible refine Below.drew ?_) | (with_reducible refine Below.allocS hN ?_) | (refine Below.transS (wx := ?_) hN ?_ ?_; rotate_left 2; assumption)))))
    clear hK K hHeld
    have hHeld := hNew
    clear hNew
    try simp only [Act.put, List.setIfInBounds_toArray, List.set_cons_zero, List.set_cons_succ]
    refine wpAnyH_take (i := 22) (oi := { dst := some 52, op := Go.Op.binOp Go.BinOp.eql 4 (Go.Operand.tmp 48) (Go.Operand.tmp 51) 4, type := 4, pos := "law.go:55", after := #[{ on := 18, ground := Go.Ground.data }, { on := 21, ground := Go.Ground.data }, { on := 15, ground := Go.Ground.guard }], guard := some (15, true) }) (v := ?_) rfl (by kernel_rfl) (by kernel_rfl) (by kernel_rfl) (fun _ _ _ h => h) (Or.inl ⟨by rfl, ?_⟩) (by assumption) ?_
    rotate_left
    focus ((intro w hSw; (try dsimp only at hSw); go_simp) <;> (with_reducible rfl))
    try simp only [Act.put, List.setIfInBounds_toArray, List.set_cons_zero, List.set_cons_succ]
    refine wpAnyH_take (i := 23) (oi := { dst := some 53, op := Go.Op.pick (Go.Operand.tmp 45) (Go.Operand.tmp 52) (Go.Operand.const (Go.Value.bool false)), type := 4, pos := "law.go:55", after := #[{ on := 15, ground := Go.Ground.data }, { on := 22, ground := Go.Ground.data }], guard := none }) (v := ?_) rfl (by kernel_rfl) (by kernel_rfl) (by kernel_rfl) (fun _ _ _ h => h) (Or.inl ⟨by rfl, ?_⟩) (by assumption) ?_
    rotate_left
    focus ((intro w hSw; (try dsimp only at hSw); go_simp) <;> (with_reducible rfl))
    try simp only [Act.put, List.setIfInBounds_toArray, List.set_cons_zero, List.set_cons_succ]
    refine wpAnyH_take (i := 24) (oi := { dst := some 54, op := Go.Op.move (Go.Operand.tmp 53), type := 4, pos := "law.go:55", after := #[{ on := 23, ground := Go.Ground.data }, { on := 21, ground := Go.Ground.chain }], guard := none }) (v := ?_) rfl (by kernel_rfl) (by kernel_rfl) (by kernel_rfl) (fun _ _ _ h => h) (Or.inl ⟨by rfl, ?_⟩) (by assumption) ?_
    rotate_left
    focus ((intro w hSw; (try dsimp only at hSw); go_simp) <;> (with_reducible rfl))
    try simp only [Act.put, List.setIfInBounds_toArray, List.set_cons_zero, List.set_cons_succ]
    refine wpAnyH_ready (rs := [25]) (by kernel_rfl) (by simp) ?_
    refine AllReadyH.cons (o := { dst := some 55, op := Go.Op.call { callee := Go.Callee.value (Go.Operand.func 22), args := #[], argTypes := #[] }, type := 4, pos := "law.go:55", after := #[{ on := 24, ground := Go.Ground.chain }, { on := 24, ground := Go.Ground.guard }], guard := some (24, true) }) rfl (fun K hK => ?_) AllReadyH.nil
    go_simp
    (go_at_call 22; refine (awake_any _ (tabAt hN.out hT4 h04 hHeld.1) (tabLt h04 hHeld.1)).mono ?_; rintro e w' ⟨rfl, hb⟩)
    first | (go_wp2_with fail) | skip
    refine hK.out _ _ ?_ (fun hNew => ?_)
    focus ((try dsimp only); ((go_split_ands; refine held3t hN.out b1 bA bB l1' lA lB ?_; have hN := hN.out; repeat' (first | (with_reducible assumption) | (with_reducible exact Below.refl _ _) | (with_reducible refine Below.drew ?_) | (with_reducible refine Below.allocS hN ?_) | (refine Below.transS (wx := ?_) hN ?_ ?_; rotate_left 2; assumption)))))
    clear hK K hHeld
    have hHeld := hNew
    clear hNew
    try simp only [Act.put, List.setIfInBounds_toArray, List.set_cons_zero, List.set_cons_succ]
    refine wpAnyH_take (i := 26) (oi := { dst := some 56, op := Go.Op.pick (Go.Operand.tmp 54) (Go.Operand.tmp 55) (Go.Operand.const (Go.Value.bool false)), type := 4, pos := "law.go:55", after := #[{ on := 24, ground := Go.Ground.data }, { on := 25, ground := Go.Ground.data }], guard := none }) (v := ?_) rfl (by kernel_rfl) (by kernel_rfl) (by kernel_rfl) (fun _ _ _ h => h) (Or.inl ⟨by rfl, ?_⟩) (by assumption) ?_
    rotate_left
    focus ((intro w hSw; (try dsimp only at hSw); go_simp) <;> (with_reducible rfl))
    try simp only [Act.put, List.setIfInBounds_toArray, List.set_cons_zero, List.set_cons_succ]
    refine wpAnyH_take (i := 27) (oi := { dst := some 6, op := Go.Op.assign (Go.Operand.tmp 56), type := 4, pos := "law.go:55", after := #[{ on := 26, ground := Go.Ground.data }, { on := 25, ground := Go.Ground.chain }, { on := 0, ground := Go.Ground.phase }, { on := 1, ground := Go.Ground.phase }, { on := 2, ground := Go.Ground.phase }, { on := 3, ground := Go.Ground.phase }, { on := 4, ground := Go.Ground.phase }, { on := 5, ground := Go.Ground.phase }, { on := 6, ground := Go.Ground.phase }, { on := 7, ground := Go.Ground.phase }, { on := 8, ground := Go.Ground.phase }, { on := 9, ground := Go.Ground.phase }, { on := 10, ground := Go.Ground.phase }, { on := 11, ground := Go.Ground.phase }, { on := 12, ground := Go.Ground.phase }, { on := 13, ground := Go.Ground.phase }, { on := 14, ground := Go.Ground.phase }, { on := 15, ground := Go.Ground.phase }, { on := 16, ground := Go.Ground.phase }, { on := 17, ground := Go.Ground.phase }, { on := 18, ground := Go.Ground.phase }, { on := 19, ground := Go.Ground.phase }, { on := 20, ground := Go.Ground.phase }, { on := 21, ground := Go.Ground.phase }, { on := 22, ground := Go.Ground.phase }, { on := 23, ground := Go.Ground.phase }, { on := 24, ground := Go.Ground.phase }, { on := 25, ground := Go.Ground.phase }, { on := 26, ground := Go.Ground.phase }], guard := none }) (v := ?_) rfl (by kernel_rfl) (by kernel_rfl) (by kernel_rfl) (fun _ _ _ h => h) (Or.inl ⟨by rfl, ?_⟩) (by assumption) ?_
    rotate_left
    focus ((intro w hSw; (try dsimp only at hSw); go_simp) <;> (with_reducible rfl))
    try simp only [Act.put, List.setIfInBounds_toArray, List.set_cons_zero, List.set_cons_succ]
    refine wpAnyH_done (by kernel_rfl) ?_ _
    refine NoPanic.normal ?_

    go_wp2_with fail
    go_ret
    exact ⟨rfl, hB.trans ((below_eq hN.out hHeld.1).mono hB.size)⟩
  · by_cases g1 : l1.length ≤ 1100
    · have d1 : decide (1100 < (l1.length : Int)) = false := decide_eq_false (by omega)
      have d2 : decide (1100 < (l2.length : Int)) = true := decide_eq_true (by omega)
      clear hlong
      go_enter Tryd.func5, Tryd.ntmps5
      go_wp2_with fail
      refine (awake_any _ hT1 h01).mono ?_
      rintro z w2 ⟨rfl, hb⟩
      go_wp2_with fail
      go_ret
      exact ⟨rfl, hB.trans (hb.mono hB.size)⟩
    · have d1 : decide (1100 < (l1.length : Int)) = true := decide_eq_true (by omega)
      clear hlong
      go_enter Tryd.func5, Tryd.ntmps5
      go_wp2_with fail
      refine (awake_any _ hT1 h01).mono ?_
      rintro z w2 ⟨rfl, hb⟩
      go_wp2_with fail
      go_ret
      exact ⟨rfl, hB.trans (hb.mono hB.size)⟩
end Go.Proofs.YtbpnhiejmkeclaaDoor
