/-
  The law LineKnown returns true.
-/
import Derived.Test.YtfagjhadfonhdaaLHelp
import Derived.Test.YtfagjhadfonhdaaLQOne
namespace Go.Proofs.Ytfagjhadfonhdaa
open Go.RowKit
theorem lk1 : oneV ⟨4, [], false⟩ [97, 98, 13, 10, 99, 13, 10] = .tuple #[.agg #[.int .i64 4, .string ⟨([] : List UInt8).toArray⟩, .bool false], .agg #[.string ⟨([97, 98] : List UInt8).toArray⟩, .bool true], .string ⟨([99, 13, 10] : List UInt8).toArray⟩, .bool true, .int .i64 0] := by kernel_rfl
theorem lk2 : feedR ⟨4, [], true⟩ [97] = ((zeroS, []), 9) := by kernel_rfl
theorem lk3 : splR [97, 98, 99, 100, 101] 4 = (([], []), 4) := by kernel_rfl
theorem lk4 : splR [97, 98, 13, 10, 99, 100] 4 = (([⟨[97, 98], true⟩], [99, 100]), 0) := by kernel_rfl
theorem lk5 : joinW (goJ [] [⟨[97, 98], true⟩]) = .tuple #[.string ⟨([97, 98, 13, 10] : List UInt8).toArray⟩, .int .i64 0] := by kernel_rfl
theorem lk6 : joinW (goJ [] [⟨[97, 98], false⟩]) = .tuple #[.string ⟨([] : List UInt8).toArray⟩, .int .i64 3] := by kernel_rfl
theorem lks (x : Ln) (h : x.tx.length < 1000000) : LnsS [x] := fun y hy => by
  rw [List.mem_singleton] at hy
  rw [hy]
  exact h
set_option maxRecDepth 100000 in
set_option maxHeartbeats 16000000 in
theorem known_law (w : World) :
    Calls Try.prog 3 #[] w fun e w' => e = .returned (.bool true) ∧ Below w.heap.size w w' := by
  go_enter Try.func3, Try.ntmps3
  go_wp2_with fail
  refine (four_any [99] _).mono ?_
  rintro e w1 ⟨rfl, hB⟩
  go_wp2_with fail
  refine (four_any [] _).mono ?_
  rintro e w2 ⟨rfl, hb⟩
  have hB := hB.trans (hb.mono hB.size)
  clear hb
  go_wp2_with fail
  refine (goodL_any [99] _).mono ?_
  rintro e w3 ⟨rfl, hb⟩
  have hB := hB.trans (hb.mono hB.size)
  clear hb
  have hlit := lns_lit w3 ([⟨[99], true⟩] : List Ln)
  have hB := hB.alloc hB.size (.cells (lnsC ([⟨[99], true⟩] : List Ln)).toArray 27)
  go_wp2_with fail
  refine (feeds_ok ⟨4, [99], false⟩ [13, 10] ⟨4, [], false⟩ [⟨[99], true⟩] (by kernel_rfl) (by decide) (by decide) (by decide) _ _ hlit).mono ?_
  rintro e w4 ⟨rfl, hb⟩
  have hB := hB.trans (hb.mono hB.size)
  clear hb
  clear hlit
  go_wp2_with fail
  refine (four_any [] _).mono ?_
  rintro e w5 ⟨rfl, hb⟩
  have hB := hB.trans (hb.mono hB.size)
  clear hb
  go_wp2_with fail
  refine (four_any [] _).mono ?_
  rintro e w6 ⟨rfl, hb⟩
  have hB := hB.trans (hb.mono hB.size)
  clear hb
  go_wp2_with fail
  refine (goodL_any [97, 98, 99] _).mono ?_
  rintro e w7 ⟨rfl, hb⟩
  have hB := hB.trans (hb.mono hB.size)
  clear hb
  have hlit := lns_lit w7 ([⟨[97, 98, 99], true⟩] : List Ln)
  have hB := hB.alloc hB.size (.cells (lnsC ([⟨[97, 98, 99], true⟩] : List Ln)).toArray 27)
  go_wp2_with fail
  refine (feeds_ok ⟨4, [], false⟩ [97, 98, 99, 13, 10] ⟨4, [], false⟩ [⟨[97, 98, 99], true⟩] (by kernel_rfl) (by decide) (by decide) (by decide) _ _ hlit).mono ?_
  rintro e w8 ⟨rfl, hb⟩
  have hB := hB.trans (hb.mono hB.size)
  clear hb
  clear hlit
  go_wp2_with fail
  refine (four_any [] _).mono ?_
  rintro e w9 ⟨rfl, hb⟩
  have hB := hB.trans (hb.mono hB.size)
  clear hb
  go_wp2_with fail
  refine (four_any [] _).mono ?_
  rintro e w10 ⟨rfl, hb⟩
  have hB := hB.trans (hb.mono hB.size)
  clear hb
  go_wp2_with fail
  refine (badL_any [97, 13, 98] _).mono ?_
  rintro e w11 ⟨rfl, hb⟩
  have hB := hB.trans (hb.mono hB.size)
  clear hb
  have hlit := lns_lit w11 ([⟨[97, 13, 98], false⟩] : List Ln)
  have hB := hB.alloc hB.size (.cells (lnsC ([⟨[97, 13, 98], false⟩] : List Ln)).toArray 27)
  go_wp2_with fail
  refine (feeds_ok ⟨4, [], false⟩ [97, 13, 98, 10] ⟨4, [], false⟩ [⟨[97, 13, 98], false⟩] (by kernel_rfl) (by decide) (by decide) (by decide) _ _ hlit).mono ?_
  rintro e w12 ⟨rfl, hb⟩
  have hB := hB.trans (hb.mono hB.size)
  clear hb
  clear hlit
  go_wp2_with fail
  refine (four_any [] _).mono ?_
  rintro e w13 ⟨rfl, hb⟩
  have hB := hB.trans (hb.mono hB.size)
  clear hb
  go_wp2_with fail
  refine (four_any [] _).mono ?_
  rintro e w14 ⟨rfl, hb⟩
  have hB := hB.trans (hb.mono hB.size)
  clear hb
  go_wp2_with fail
  refine (badL_any [97, 98, 13] _).mono ?_
  rintro e w15 ⟨rfl, hb⟩
  have hB := hB.trans (hb.mono hB.size)
  clear hb
  have hlit := lns_lit w15 ([⟨[97, 98, 13], false⟩] : List Ln)
  have hB := hB.alloc hB.size (.cells (lnsC ([⟨[97, 98, 13], false⟩] : List Ln)).toArray 27)
  go_wp2_with fail
  refine (feeds_ok ⟨4, [], false⟩ [97, 98, 13, 13, 10] ⟨4, [], false⟩ [⟨[97, 98, 13], false⟩] (by kernel_rfl) (by decide) (by decide) (by decide) _ _ hlit).mono ?_
  rintro e w16 ⟨rfl, hb⟩
  have hB := hB.trans (hb.mono hB.size)
  clear hb
  clear hlit
  go_wp2_with fail
  refine (four_any [] _).mono ?_
  rintro e w17 ⟨rfl, hb⟩
  have hB := hB.trans (hb.mono hB.size)
  clear hb
  go_wp2_with fail
  refine (four_any [] _).mono ?_
  rintro e w18 ⟨rfl, hb⟩
  have hB := hB.trans (hb.mono hB.size)
  clear hb
  go_wp2_with fail
  refine (goodL_any [] _).mono ?_
  rintro e w19 ⟨rfl, hb⟩
  have hB := hB.trans (hb.mono hB.size)
  clear hb
  have hlit := lns_lit w19 ([⟨[], true⟩] : List Ln)
  have hB := hB.alloc hB.size (.cells (lnsC ([⟨[], true⟩] : List Ln)).toArray 27)
  go_wp2_with fail
  refine (feeds_ok ⟨4, [], false⟩ [13, 10] ⟨4, [], false⟩ [⟨[], true⟩] (by kernel_rfl) (by decide) (by decide) (by decide) _ _ hlit).mono ?_
  rintro e w20 ⟨rfl, hb⟩
  have hB := hB.trans (hb.mono hB.size)
  clear hb
  clear hlit
  go_wp2_with fail
  refine (four_any [] _).mono ?_
  rintro e v1 ⟨rfl, hb⟩
  have hB := hB.trans (hb.mono hB.size)
  clear hb
  go_wp2_with fail
  refine (lone_any ⟨4, [], false⟩ [97, 98, 13, 10, 99, 13, 10] (by decide) (by decide) _).mono ?_
  rintro e v2 ⟨rfl, hb⟩
  rw [lk1]
  have hB := hB.trans (hb.mono hB.size)
  clear hb
  obtain ⟨W3, hW3⟩ : ∃ W3, (v2.alloc (.cells #[.int .i64 4, .string ⟨#[]⟩, .bool false] 24)).alloc (.cells #[.string ⟨#[97, 98]⟩, .bool true] 27) = W3 := ⟨_, rfl⟩
  have c1 : CBlk 24 W3 v2.heap.size [.int .i64 4, .string ⟨#[]⟩, .bool false] := by
    rw [← hW3]
    exact (CBlk.new _ v2 _).alloc _
  have c2 : CBlk 27 W3 (v2.heap.size + 1) [.string ⟨#[97, 98]⟩, .bool true] := by
    rw [← hW3]
    have h := CBlk.new 27 (v2.alloc (.cells #[.int .i64 4, .string ⟨#[]⟩, .bool false] 24)) [.string ⟨#[97, 98]⟩, .bool true]
    simpa using h
  have hB : Below w.heap.size w W3 := by
    rw [← hW3]
    have h1 := hB.alloc hB.size (.cells #[.int .i64 4, .string ⟨#[]⟩, .bool false] 24)
    exact h1.alloc h1.size _
  have HW3 := Lib.hid hW3
  clear hW3
  go_upto_region 4 with fail
  rw [HW3.out]
  obtain ⟨b1, hb1⟩ : ∃ b, v2.heap.size = b := ⟨_, rfl⟩
  rw [hb1] at c1 c2 ⊢
  obtain ⟨b2, hb2⟩ : ∃ b, b1 + 1 = b := ⟨_, rfl⟩
  rw [hb2] at c2 ⊢
  have HC1 := Lib.hid c1
  have HC2 := Lib.hid c2
  have hX := Below.refl W3.heap.size W3
  clear c1 c2 hb1 hb2 HW3
  go_wp2_with fail
  refine (lfeed_any ⟨4, [], true⟩ [97] (by decide) (by decide) _).mono ?_
  rintro e v4 ⟨⟨u4, rfl, -⟩, hb⟩
  rw [lk2]
  have hB := hB.trans (hb.mono hB.size)
  have hX := hX.trans (hb.mono hX.size)
  clear hb
  have hB := hB.alloc hB.size (.cells #[.int .i64 0, .string ⟨#[]⟩, .bool false] 24)
  have hX := hX.alloc hX.size (.cells #[.int .i64 0, .string ⟨#[]⟩, .bool false] 24)
  unfold spV zeroS
  dsimp only
  go_wp2_with fail
  refine (lsplit_any [97, 98, 99, 100, 101] 4 (by decide) _).mono ?_
  rintro e v5 ⟨⟨u5, rfl, -⟩, hb⟩
  rw [lk3]
  have hB := hB.trans (hb.mono hB.size)
  have hX := hX.trans (hb.mono hX.size)
  clear hb
  go_wp2_with fail
  refine (lsplit_any [97, 98, 13, 10, 99, 100] 4 (by decide) _).mono ?_
  rintro e v6 ⟨⟨u6, rfl, hl⟩, hb⟩
  rw [lk4] at hl ⊢
  dsimp only at hl ⊢
  have hB := hB.trans (hb.mono hB.size)
  have hX := hX.trans (hb.mono hX.size)
  have HL := Lib.hid hl
  have hY := Below.refl v6.heap.size v6
  obtain ⟨pl, cl, rfl, -⟩ := id hl
  clear hb hl
  go_wp2_with fail
  refine (goodL_any [97, 98] _).mono ?_
  rintro e v7 ⟨rfl, hb⟩
  have hB := hB.trans (hb.mono hB.size)
  have hX := hX.trans (hb.mono hX.size)
  have hY := hY.trans (hb.mono hY.size)
  clear hb
  have hlit := lns_lit v7 ([⟨[97, 98], true⟩] : List Ln)
  have hB := hB.alloc hB.size (.cells (lnsC ([⟨[97, 98], true⟩] : List Ln)).toArray 27)
  have hX := hX.alloc hX.size (.cells (lnsC ([⟨[97, 98], true⟩] : List Ln)).toArray 27)
  have hY := hY.alloc hY.size (.cells (lnsC ([⟨[97, 98], true⟩] : List Ln)).toArray 27)
  go_wp2_with fail
  refine (ljoin_any [⟨[97, 98], true⟩] (by decide) (lks _ (by decide)) _ _ hlit).mono ?_
  rintro e v8 ⟨rfl, hb⟩
  rw [lk5]
  have hB := hB.trans (hb.mono hB.size)
  have hX := hX.trans (hb.mono hX.size)
  have hY := hY.trans (hb.mono hY.size)
  clear hb hlit
  go_wp2_with fail
  refine (badL_any [97, 98] _).mono ?_
  rintro e v9 ⟨rfl, hb⟩
  have hB := hB.trans (hb.mono hB.size)
  have hX := hX.trans (hb.mono hX.size)
  have hY := hY.trans (hb.mono hY.size)
  clear hb
  have hlit := lns_lit v9 ([⟨[97, 98], false⟩] : List Ln)
  have hB := hB.alloc hB.size (.cells (lnsC ([⟨[97, 98], false⟩] : List Ln)).toArray 27)
  have hX := hX.alloc hX.size (.cells (lnsC ([⟨[97, 98], false⟩] : List Ln)).toArray 27)
  have hY := hY.alloc hY.size (.cells (lnsC ([⟨[97, 98], false⟩] : List Ln)).toArray 27)
  go_wp2_with fail
  refine (ljoin_any [⟨[97, 98], false⟩] (by decide) (lks _ (by decide)) _ _ hlit).mono ?_
  rintro e W ⟨rfl, hb⟩
  rw [lk6]
  have hB := hB.trans (hb.mono hB.size)
  have hX := hX.trans (hb.mono hX.size)
  have hY := hY.trans (hb.mono hY.size)
  have K4 : Hid (∀ wx, Below W.heap.size W wx → (fun wx => Below W.heap.size W wx ∧ wx.cell? ⟨b1, 0, none⟩ = some (.int .i64 4) ∧ wx.cell? ⟨b1, 1, none⟩ = some (.string ⟨#[]⟩) ∧ wx.cell? ⟨b1, 2, none⟩ = some (.bool false) ∧ wx.cell? ⟨b2, 0, none⟩ = some (.string ⟨#[97, 98]⟩) ∧ wx.cell? ⟨b2, 1, none⟩ = some (.bool true)) wx) := Lib.hid (fun wx hx => by
    have d1 := (HC1.out.below hX HC1.out.lt)
    have d1 := d1.below hx d1.lt
    have d2 := (HC2.out.below hX HC2.out.lt)
    have d2 := d2.below hx d2.lt
    exact ⟨hx, d1.cells3.1, d1.cells3.2.1, d1.cells3.2.2, d2.cells2.1, d2.cells2.2⟩)
  have HLV : Hid (∀ wx, Below W.heap.size W wx → LnsAt wx (.slice pl 1 cl) [⟨[97, 98], true⟩]) := Lib.hid (fun wx hx => (HL.out.below hY (Nat.le_refl _)).below hx (Nat.le_refl _))
  have HBW := Lib.hid hB
  clear hb hlit hX hY hB
  go_upto_region 9 with fail
  refine wp_region_noPanic ?_
  refine wp_region_held_drew (S := fun wx => Below W.heap.size W wx ∧ wx.cell? ⟨b1, 0, none⟩ = some (.int .i64 4) ∧ wx.cell? ⟨b1, 1, none⟩ = some (.string ⟨#[]⟩) ∧ wx.cell? ⟨b1, 2, none⟩ = some (.bool false) ∧ wx.cell? ⟨b2, 0, none⟩ = some (.string ⟨#[97, 98]⟩) ∧ wx.cell? ⟨b2, 1, none⟩ = some (.bool true)) (by kernel_rfl) ?_ (fun hHeld => ?_)
  focus ((try dsimp only); (refine K4.out _ ?_; repeat' (first | (with_reducible exact hHeld.1) | (with_reducible assumption) | (with_reducible exact Below.refl _ _) | (with_reducible refine Below.drew ?_) | (with_reducible refine lbelow_one _ ?_) | (refine lbelow_call (wx := ?_) ?_ ?_; rotate_left 2; assumption))))
  try simp only [Act.put, List.setIfInBounds_toArray, List.set_cons_zero, List.set_cons_succ]
  refine wpAnyH_take (i := 0) (oi := { dst := some 93, op := Go.Op.load 24 (Go.Operand.tmp 1), type := 24, pos := "outright.go:38", after := #[], guard := none }) (v := ?_) rfl (by kernel_rfl) (by kernel_rfl) (by kernel_rfl) (fun _ _ _ h => h) (Or.inl ⟨by rfl, ?_⟩) (by assumption) ?_
  rotate_left
  focus ((intro w hSw; (try dsimp only at hSw); go_simp) <;> (with_reducible rfl))
  try simp only [Act.put, List.setIfInBounds_toArray, List.set_cons_zero, List.set_cons_succ]
  refine wpAnyH_ready (rs := [1]) (by kernel_rfl) (by simp) ?_
  refine AllReadyH.cons (o := { dst := some 94, op := Go.Op.call { callee := Go.Callee.value (Go.Operand.func 10), args := #[Go.Operand.const (Go.Value.string { data := #[] })], argTypes := #[9] }, type := 24, pos := "outright.go:38", after := #[], guard := none }) rfl (fun K hK => ?_) AllReadyH.nil
  go_simp
  (go_at_call 10; refine (four_any [] _).mono ?_; rintro e wa ⟨rfl, hb1⟩)
  first | (go_wp2_with fail) | skip
  refine hK.out _ _ ?_ (fun hNew => ?_)
  focus ((try dsimp only); (refine K4.out _ ?_; repeat' (first | (with_reducible exact hHeld.1) | (with_reducible assumption) | (with_reducible exact Below.refl _ _) | (with_reducible refine Below.drew ?_) | (with_reducible refine lbelow_one _ ?_) | (refine lbelow_call (wx := ?_) ?_ ?_; rotate_left 2; assumption))))
  clear hK K hHeld
  have hHeld := hNew
  clear hNew
  try simp only [Act.put, List.setIfInBounds_toArray, List.set_cons_zero, List.set_cons_succ]
  refine wpAnyH_take (i := 2) (oi := { dst := some 95, op := Go.Op.binOp Go.BinOp.eql 24 (Go.Operand.tmp 93) (Go.Operand.tmp 94) 24, type := 4, pos := "outright.go:38", after := #[{ on := 0, ground := Go.Ground.data }, { on := 1, ground := Go.Ground.data }], guard := none }) (v := ?_) rfl (by kernel_rfl) (by kernel_rfl) (by kernel_rfl) (fun _ _ _ h => h) (Or.inl ⟨by rfl, ?_⟩) (by assumption) ?_
  rotate_left
  focus ((intro w hSw; (try dsimp only at hSw); go_simp) <;> (with_reducible rfl))
  try simp only [Act.put, List.setIfInBounds_toArray, List.set_cons_zero, List.set_cons_succ]
  refine wpAnyH_take (i := 3) (oi := { dst := some 96, op := Go.Op.move (Go.Operand.tmp 95), type := 4, pos := "outright.go:38", after := #[{ on := 2, ground := Go.Ground.data }, { on := 1, ground := Go.Ground.chain }], guard := none }) (v := ?_) rfl (by kernel_rfl) (by kernel_rfl) (by kernel_rfl) (fun _ _ _ h => h) (Or.inl ⟨by rfl, ?_⟩) (by assumption) ?_
  rotate_left
  focus ((intro w hSw; (try dsimp only at hSw); go_simp) <;> (with_reducible rfl))
  try simp only [Act.put, List.setIfInBounds_toArray, List.set_cons_zero, List.set_cons_succ]
  refine wpAnyH_take (i := 4) (oi := { dst := some 97, op := Go.Op.load 27 (Go.Operand.tmp 2), type := 27, pos := "outright.go:38", after := #[{ on := 3, ground := Go.Ground.guard }], guard := some (3, true) }) (v := ?_) rfl (by kernel_rfl) (by kernel_rfl) (by kernel_rfl) (fun _ _ _ h => h) (Or.inl ⟨by rfl, ?_⟩) (by assumption) ?_
  rotate_left
  focus ((intro w hSw; (try dsimp only at hSw); go_simp) <;> (with_reducible rfl))
  try simp only [Act.put, List.setIfInBounds_toArray, List.set_cons_zero, List.set_cons_succ]
  refine wpAnyH_ready (rs := [5]) (by kernel_rfl) (by simp) ?_
  refine AllReadyH.cons (o := { dst := some 98, op := Go.Op.call { callee := Go.Callee.value (Go.Operand.func 11), args := #[Go.Operand.const (Go.Value.string { data := #[97, 98] })], argTypes := #[9] }, type := 27, pos := "outright.go:38", after := #[{ on := 3, ground := Go.Ground.chain }, { on := 3, ground := Go.Ground.guard }], guard := some (3, true) }) rfl (fun K hK => ?_) AllReadyH.nil
  go_simp
  (go_at_call 11; refine (goodL_any [97, 98] _).mono ?_; rintro e wb ⟨rfl, hb2⟩)
  first | (go_wp2_with fail) | skip
  refine hK.out _ _ ?_ (fun hNew => ?_)
  focus ((try dsimp only); (refine K4.out _ ?_; repeat' (first | (with_reducible exact hHeld.1) | (with_reducible assumption) | (with_reducible exact Below.refl _ _) | (with_reducible refine Below.drew ?_) | (with_reducible refine lbelow_one _ ?_) | (refine lbelow_call (wx := ?_) ?_ ?_; rotate_left 2; assumption))))
  clear hK K hHeld
  have hHeld := hNew
  clear hNew
  try simp only [Act.put, List.setIfInBounds_toArray, List.set_cons_zero, List.set_cons_succ]
  refine wpAnyH_take (i := 6) (oi := { dst := some 99, op := Go.Op.binOp Go.BinOp.eql 27 (Go.Operand.tmp 97) (Go.Operand.tmp 98) 27, type := 4, pos := "outright.go:38", after := #[{ on := 4, ground := Go.Ground.data }, { on := 5, ground := Go.Ground.data }, { on := 3, ground := Go.Ground.guard }], guard := some (3, true) }) (v := ?_) rfl (by kernel_rfl) (by kernel_rfl) (by kernel_rfl) (fun _ _ _ h => h) (Or.inl ⟨by rfl, ?_⟩) (by assumption) ?_
  rotate_left
  focus ((intro w hSw; (try dsimp only at hSw); go_simp) <;> (with_reducible rfl))
  try simp only [Act.put, List.setIfInBounds_toArray, List.set_cons_zero, List.set_cons_succ]
  refine wpAnyH_take (i := 7) (oi := { dst := some 100, op := Go.Op.pick (Go.Operand.tmp 96) (Go.Operand.tmp 99) (Go.Operand.const (Go.Value.bool false)), type := 4, pos := "outright.go:38", after := #[{ on := 3, ground := Go.Ground.data }, { on := 6, ground := Go.Ground.data }], guard := none }) (v := ?_) rfl (by kernel_rfl) (by kernel_rfl) (by kernel_rfl) (fun _ _ _ h => h) (Or.inl ⟨by rfl, ?_⟩) (by assumption) ?_
  rotate_left
  focus ((intro w hSw; (try dsimp only at hSw); go_simp) <;> (with_reducible rfl))
  try simp only [Act.put, List.setIfInBounds_toArray, List.set_cons_zero, List.set_cons_succ]
  refine wpAnyH_take (i := 8) (oi := { dst := some 101, op := Go.Op.move (Go.Operand.tmp 100), type := 4, pos := "outright.go:38", after := #[{ on := 7, ground := Go.Ground.data }, { on := 5, ground := Go.Ground.chain }], guard := none }) (v := ?_) rfl (by kernel_rfl) (by kernel_rfl) (by kernel_rfl) (fun _ _ _ h => h) (Or.inl ⟨by rfl, ?_⟩) (by assumption) ?_
  rotate_left
  focus ((intro w hSw; (try dsimp only at hSw); go_simp) <;> (with_reducible rfl))
  try simp only [Act.put, List.setIfInBounds_toArray, List.set_cons_zero, List.set_cons_succ]
  refine wpAnyH_take (i := 9) (oi := { dst := some 102, op := Go.Op.move (Go.Operand.tmp 3), type := 9, pos := "outright.go:38", after := #[{ on := 8, ground := Go.Ground.guard }], guard := some (8, true) }) (v := ?_) rfl (by kernel_rfl) (by kernel_rfl) (by kernel_rfl) (fun _ _ _ h => h) (Or.inl ⟨by rfl, ?_⟩) (by assumption) ?_
  rotate_left
  focus ((intro w hSw; (try dsimp only at hSw); go_simp) <;> (with_reducible rfl))
  try simp only [Act.put, List.setIfInBounds_toArray, List.set_cons_zero, List.set_cons_succ]
  refine wpAnyH_take (i := 10) (oi := { dst := some 103, op := Go.Op.binOp Go.BinOp.eql 9 (Go.Operand.tmp 102) (Go.Operand.const (Go.Value.string { data := #[99, 13, 10] })) 9, type := 4, pos := "outright.go:38", after := #[{ on := 9, ground := Go.Ground.data }, { on := 8, ground := Go.Ground.guard }], guard := some (8, true) }) (v := ?_) rfl (by kernel_rfl) (by kernel_rfl) (by kernel_rfl) (fun _ _ _ h => h) (Or.inl ⟨by rfl, ?_⟩) (by assumption) ?_
  rotate_left
  focus ((intro w hSw; (try dsimp only at hSw); go_simp) <;> (with_reducible rfl))
  try simp only [Act.put, List.setIfInBounds_toArray, List.set_cons_zero, List.set_cons_succ]
  refine wpAnyH_take (i := 11) (oi := { dst := some 104, op := Go.Op.pick (Go.Operand.tmp 101) (Go.Operand.tmp 103) (Go.Operand.const (Go.Value.bool false)), type := 4, pos := "outright.go:38", after := #[{ on := 8, ground := Go.Ground.data }, { on := 10, ground := Go.Ground.data }], guard := none }) (v := ?_) rfl (by kernel_rfl) (by kernel_rfl) (by kernel_rfl) (fun _ _ _ h => h) (Or.inl ⟨by rfl, ?_⟩) (by assumption) ?_
  rotate_left
  focus ((intro w hSw; (try dsimp only at hSw); go_simp) <;> (with_reducible rfl))
  try simp only [Act.put, List.setIfInBounds_toArray, List.set_cons_zero, List.set_cons_succ]
  refine wpAnyH_take (i := 12) (oi := { dst := some 105, op := Go.Op.move (Go.Operand.tmp 104), type := 4, pos := "outright.go:38", after := #[{ on := 11, ground := Go.Ground.data }, { on := 8, ground := Go.Ground.chain }], guard := none }) (v := ?_) rfl (by kernel_rfl) (by kernel_rfl) (by kernel_rfl) (fun _ _ _ h => h) (Or.inl ⟨by rfl, ?_⟩) (by assumption) ?_
  rotate_left
  focus ((intro w hSw; (try dsimp only at hSw); go_simp) <;> (with_reducible rfl))
  try simp only [Act.put, List.setIfInBounds_toArray, List.set_cons_zero, List.set_cons_succ]
  refine wpAnyH_take (i := 13) (oi := { dst := some 106, op := Go.Op.move (Go.Operand.tmp 4), type := 4, pos := "outright.go:38", after := #[{ on := 12, ground := Go.Ground.guard }], guard := some (12, true) }) (v := ?_) rfl (by kernel_rfl) (by kernel_rfl) (by kernel_rfl) (fun _ _ _ h => h) (Or.inl ⟨by rfl, ?_⟩) (by assumption) ?_
  rotate_left
  focus ((intro w hSw; (try dsimp only at hSw); go_simp) <;> (with_reducible rfl))
  try simp only [Act.put, List.setIfInBounds_toArray, List.set_cons_zero, List.set_cons_succ]
  refine wpAnyH_take (i := 14) (oi := { dst := some 107, op := Go.Op.pick (Go.Operand.tmp 105) (Go.Operand.tmp 106) (Go.Operand.const (Go.Value.bool false)), type := 4, pos := "outright.go:38", after := #[{ on := 12, ground := Go.Ground.data }, { on := 13, ground := Go.Ground.data }], guard := none }) (v := ?_) rfl (by kernel_rfl) (by kernel_rfl) (by kernel_rfl) (fun _ _ _ h => h) (Or.inl ⟨by rfl, ?_⟩) (by assumption) ?_
  rotate_left
  focus ((intro w hSw; (try dsimp only at hSw); go_simp) <;> (with_reducible rfl))
  try simp only [Act.put, List.setIfInBounds_toArray, List.set_cons_zero, List.set_cons_succ]
  refine wpAnyH_take (i := 15) (oi := { dst := some 108, op := Go.Op.move (Go.Operand.tmp 107), type := 4, pos := "outright.go:38", after := #[{ on := 14, ground := Go.Ground.data }, { on := 12, ground := Go.Ground.chain }], guard := none }) (v := ?_) rfl (by kernel_rfl) (by kernel_rfl) (by kernel_rfl) (fun _ _ _ h => h) (Or.inl ⟨by rfl, ?_⟩) (by assumption) ?_
  rotate_left
  focus ((intro w hSw; (try dsimp only at hSw); go_simp) <;> (with_reducible rfl))
  try simp only [Act.put, List.setIfInBounds_toArray, List.set_cons_zero, List.set_cons_succ]
  refine wpAnyH_take (i := 16) (oi := { dst := some 109, op := Go.Op.move (Go.Operand.tmp 5), type := 29, pos := "outright.go:38", after := #[{ on := 15, ground := Go.Ground.guard }], guard := some (15, true) }) (v := ?_) rfl (by kernel_rfl) (by kernel_rfl) (by kernel_rfl) (fun _ _ _ h => h) (Or.inl ⟨by rfl, ?_⟩) (by assumption) ?_
  rotate_left
  focus ((intro w hSw; (try dsimp only at hSw); go_simp) <;> (with_reducible rfl))
  try simp only [Act.put, List.setIfInBounds_toArray, List.set_cons_zero, List.set_cons_succ]
  refine wpAnyH_take (i := 17) (oi := { dst := some 110, op := Go.Op.binOp Go.BinOp.eql 29 (Go.Operand.tmp 109) (Go.Operand.const (Go.Value.int Go.IntKind.i64 0)) 29, type := 4, pos := "outright.go:38", after := #[{ on := 16, ground := Go.Ground.data }, { on := 15, ground := Go.Ground.guard }], guard := some (15, true) }) (v := ?_) rfl (by kernel_rfl) (by kernel_rfl) (by kernel_rfl) (fun _ _ _ h => h) (Or.inl ⟨by rfl, ?_⟩) (by assumption) ?_
  rotate_left
  focus ((intro w hSw; (try dsimp only at hSw); go_simp) <;> (with_reducible rfl))
  try simp only [Act.put, List.setIfInBounds_toArray, List.set_cons_zero, List.set_cons_succ]
  refine wpAnyH_take (i := 18) (oi := { dst := some 111, op := Go.Op.pick (Go.Operand.tmp 108) (Go.Operand.tmp 110) (Go.Operand.const (Go.Value.bool false)), type := 4, pos := "outright.go:38", after := #[{ on := 15, ground := Go.Ground.data }, { on := 17, ground := Go.Ground.data }], guard := none }) (v := ?_) rfl (by kernel_rfl) (by kernel_rfl) (by kernel_rfl) (fun _ _ _ h => h) (Or.inl ⟨by rfl, ?_⟩) (by assumption) ?_
  rotate_left
  focus ((intro w hSw; (try dsimp only at hSw); go_simp) <;> (with_reducible rfl))
  try simp only [Act.put, List.setIfInBounds_toArray, List.set_cons_zero, List.set_cons_succ]
  refine wpAnyH_take (i := 19) (oi := { dst := some 112, op := Go.Op.move (Go.Operand.tmp 111), type := 4, pos := "outright.go:38", after := #[{ on := 18, ground := Go.Ground.data }, { on := 15, ground := Go.Ground.chain }], guard := none }) (v := ?_) rfl (by kernel_rfl) (by kernel_rfl) (by kernel_rfl) (fun _ _ _ h => h) (Or.inl ⟨by rfl, ?_⟩) (by assumption) ?_
  rotate_left
  focus ((intro w hSw; (try dsimp only at hSw); go_simp) <;> (with_reducible rfl))
  try simp only [Act.put, List.setIfInBounds_toArray, List.set_cons_zero, List.set_cons_succ]
  refine wpAnyH_take (i := 20) (oi := { dst := some 113, op := Go.Op.move (Go.Operand.tmp 8), type := 29, pos := "outright.go:38", after := #[{ on := 19, ground := Go.Ground.guard }], guard := some (19, true) }) (v := ?_) rfl (by kernel_rfl) (by kernel_rfl) (by kernel_rfl) (fun _ _ _ h => h) (Or.inl ⟨by rfl, ?_⟩) (by assumption) ?_
  rotate_left
  focus ((intro w hSw; (try dsimp only at hSw); go_simp) <;> (with_reducible rfl))
  try simp only [Act.put, List.setIfInBounds_toArray, List.set_cons_zero, List.set_cons_succ]
  refine wpAnyH_take (i := 21) (oi := { dst := some 114, op := Go.Op.binOp Go.BinOp.eql 29 (Go.Operand.tmp 113) (Go.Operand.const (Go.Value.int Go.IntKind.i64 9)) 29, type := 4, pos := "outright.go:38", after := #[{ on := 20, ground := Go.Ground.data }, { on := 19, ground := Go.Ground.guard }], guard := some (19, true) }) (v := ?_) rfl (by kernel_rfl) (by kernel_rfl) (by kernel_rfl) (fun _ _ _ h => h) (Or.inl ⟨by rfl, ?_⟩) (by assumption) ?_
  rotate_left
  focus ((intro w hSw; (try dsimp only at hSw); go_simp) <;> (with_reducible rfl))
  try simp only [Act.put, List.setIfInBounds_toArray, List.set_cons_zero, List.set_cons_succ]
  refine wpAnyH_take (i := 22) (oi := { dst := some 115, op := Go.Op.pick (Go.Operand.tmp 112) (Go.Operand.tmp 114) (Go.Operand.const (Go.Value.bool false)), type := 4, pos := "outright.go:38", after := #[{ on := 19, ground := Go.Ground.data }, { on := 21, ground := Go.Ground.data }], guard := none }) (v := ?_) rfl (by kernel_rfl) (by kernel_rfl) (by kernel_rfl) (fun _ _ _ h => h) (Or.inl ⟨by rfl, ?_⟩) (by assumption) ?_
  rotate_left
  focus ((intro w hSw; (try dsimp only at hSw); go_simp) <;> (with_reducible rfl))
  try simp only [Act.put, List.setIfInBounds_toArray, List.set_cons_zero, List.set_cons_succ]
  refine wpAnyH_take (i := 23) (oi := { dst := some 116, op := Go.Op.move (Go.Operand.tmp 115), type := 4, pos := "outright.go:38", after := #[{ on := 22, ground := Go.Ground.data }, { on := 19, ground := Go.Ground.chain }], guard := none }) (v := ?_) rfl (by kernel_rfl) (by kernel_rfl) (by kernel_rfl) (fun _ _ _ h => h) (Or.inl ⟨by rfl, ?_⟩) (by assumption) ?_
  rotate_left
  focus ((intro w hSw; (try dsimp only at hSw); go_simp) <;> (with_reducible rfl))
  try simp only [Act.put, List.setIfInBounds_toArray, List.set_cons_zero, List.set_cons_succ]
  refine wpAnyH_take (i := 24) (oi := { dst := some 117, op := Go.Op.move (Go.Operand.tmp 11), type := 29, pos := "outright.go:38", after := #[{ on := 23, ground := Go.Ground.guard }], guard := some (23, true) }) (v := ?_) rfl (by kernel_rfl) (by kernel_rfl) (by kernel_rfl) (fun _ _ _ h => h) (Or.inl ⟨by rfl, ?_⟩) (by assumption) ?_
  rotate_left
  focus ((intro w hSw; (try dsimp only at hSw); go_simp) <;> (with_reducible rfl))
  try simp only [Act.put, List.setIfInBounds_toArray, List.set_cons_zero, List.set_cons_succ]
  refine wpAnyH_take (i := 25) (oi := { dst := some 118, op := Go.Op.binOp Go.BinOp.eql 29 (Go.Operand.tmp 117) (Go.Operand.const (Go.Value.int Go.IntKind.i64 4)) 29, type := 4, pos := "outright.go:38", after := #[{ on := 24, ground := Go.Ground.data }, { on := 23, ground := Go.Ground.guard }], guard := some (23, true) }) (v := ?_) rfl (by kernel_rfl) (by kernel_rfl) (by kernel_rfl) (fun _ _ _ h => h) (Or.inl ⟨by rfl, ?_⟩) (by assumption) ?_
  rotate_left
  focus ((intro w hSw; (try dsimp only at hSw); go_simp) <;> (with_reducible rfl))
  try simp only [Act.put, List.setIfInBounds_toArray, List.set_cons_zero, List.set_cons_succ]
  refine wpAnyH_take (i := 26) (oi := { dst := some 119, op := Go.Op.pick (Go.Operand.tmp 116) (Go.Operand.tmp 118) (Go.Operand.const (Go.Value.bool false)), type := 4, pos := "outright.go:38", after := #[{ on := 23, ground := Go.Ground.data }, { on := 25, ground := Go.Ground.data }], guard := none }) (v := ?_) rfl (by kernel_rfl) (by kernel_rfl) (by kernel_rfl) (fun _ _ _ h => h) (Or.inl ⟨by rfl, ?_⟩) (by assumption) ?_
  rotate_left
  focus ((intro w hSw; (try dsimp only at hSw); go_simp) <;> (with_reducible rfl))
  try simp only [Act.put, List.setIfInBounds_toArray, List.set_cons_zero, List.set_cons_succ]
  refine wpAnyH_take (i := 27) (oi := { dst := some 120, op := Go.Op.move (Go.Operand.tmp 119), type := 4, pos := "outright.go:38", after := #[{ on := 26, ground := Go.Ground.data }, { on := 23, ground := Go.Ground.chain }], guard := none }) (v := ?_) rfl (by kernel_rfl) (by kernel_rfl) (by kernel_rfl) (fun _ _ _ h => h) (Or.inl ⟨by rfl, ?_⟩) (by assumption) ?_
  rotate_left
  focus ((intro w hSw; (try dsimp only at hSw); go_simp) <;> (with_reducible rfl))
  try simp only [Act.put, List.setIfInBounds_toArray, List.set_cons_zero, List.set_cons_succ]
  refine wpAnyH_take (i := 28) (oi := { dst := some 121, op := Go.Op.move (Go.Operand.tmp 12), type := 32, pos := "outright.go:38", after := #[{ on := 27, ground := Go.Ground.guard }], guard := some (27, true) }) (v := ?_) rfl (by kernel_rfl) (by kernel_rfl) (by kernel_rfl) (fun _ _ _ h => h) (Or.inl ⟨by rfl, ?_⟩) (by assumption) ?_
  rotate_left
  focus ((intro w hSw; (try dsimp only at hSw); go_simp) <;> (with_reducible rfl))
  try simp only [Act.put, List.setIfInBounds_toArray, List.set_cons_zero, List.set_cons_succ]
  refine wpAnyH_ready (rs := [29]) (by kernel_rfl) (by simp) ?_
  refine AllReadyH.cons (o := { dst := some 122, op := Go.Op.call { callee := Go.Callee.value (Go.Operand.func 11), args := #[Go.Operand.const (Go.Value.string { data := #[97, 98] })], argTypes := #[9] }, type := 27, pos := "outright.go:38", after := #[{ on := 27, ground := Go.Ground.chain }, { on := 27, ground := Go.Ground.guard }], guard := some (27, true) }) rfl (fun K hK => ?_) AllReadyH.nil
  go_simp
  (go_at_call 11; refine (goodL_any [97, 98] _).mono ?_; rintro e wc ⟨rfl, hb3⟩)
  first | (go_wp2_with fail) | skip
  refine hK.out _ _ ?_ (fun hNew => ?_)
  focus ((try dsimp only); (refine K4.out _ ?_; repeat' (first | (with_reducible exact hHeld.1) | (with_reducible assumption) | (with_reducible exact Below.refl _ _) | (with_reducible refine Below.drew ?_) | (with_reducible refine lbelow_one _ ?_) | (refine lbelow_call (wx := ?_) ?_ ?_; rotate_left 2; assumption))))
  clear hK K hHeld
  have hHeld := hNew
  clear hNew
  try simp only [Act.put, List.setIfInBounds_toArray, List.set_cons_zero, List.set_cons_succ]
  refine wpAnyH_ready (rs := [30]) (by kernel_rfl) (by simp) ?_
  refine AllReadyH.cons (o := { dst := some 123, op := Go.Op.buildSlice 32 1 #[(0, Go.Operand.tmp 122)], type := 32, pos := "outright.go:38", after := #[{ on := 29, ground := Go.Ground.data }, { on := 27, ground := Go.Ground.guard }], guard := some (27, true) }) rfl (fun K hK => ?_) AllReadyH.nil
  go_simp
  refine hK.out _ _ ?_ (fun hNew => ?_)
  focus ((try dsimp only); (refine K4.out _ ?_; repeat' (first | (with_reducible exact hHeld.1) | (with_reducible assumption) | (with_reducible exact Below.refl _ _) | (with_reducible refine Below.drew ?_) | (with_reducible refine lbelow_one _ ?_) | (refine lbelow_call (wx := ?_) ?_ ?_; rotate_left 2; assumption))))
  clear hK K hHeld
  have hHeld := hNew
  clear hNew
  try simp only [Act.put, List.setIfInBounds_toArray, List.set_cons_zero, List.set_cons_succ]
  refine wpAnyH_ready (rs := [31]) (by kernel_rfl) (by simp) ?_
  refine AllReadyH.cons (o := { dst := some 124, op := Go.Op.call { callee := Go.Callee.value (Go.Operand.func 17), args := #[Go.Operand.tmp 121, Go.Operand.tmp 123], argTypes := #[32, 32] }, type := 4, pos := "outright.go:38", after := #[{ on := 28, ground := Go.Ground.data }, { on := 30, ground := Go.Ground.data }, { on := 29, ground := Go.Ground.chain }, { on := 27, ground := Go.Ground.guard }], guard := some (27, true) }) rfl (fun K hK => ?_) AllReadyH.nil
  go_simp
  (go_at_call 17; refine (sameLines_any [⟨[97, 98], true⟩] (by decide) _ _ _ (HLV.out _ (by repeat' (first | (with_reducible exact hHeld.1) | (with_reducible assumption) | (with_reducible exact Below.refl _ _) | (with_reducible refine Below.drew ?_) | (with_reducible refine lbelow_one _ ?_) | (refine lbelow_call (wx := ?_) ?_ ?_; rotate_left 2; assumption)))) (lns_lit wc [⟨[97, 98], true⟩])).mono ?_; rintro e wd ⟨rfl, hb4⟩)
  first | (go_wp2_with fail) | skip
  refine hK.out _ _ ?_ (fun hNew => ?_)
  focus ((try dsimp only); (refine K4.out _ ?_; repeat' (first | (with_reducible exact hHeld.1) | (with_reducible assumption) | (with_reducible exact Below.refl _ _) | (with_reducible refine Below.drew ?_) | (with_reducible refine lbelow_one _ ?_) | (refine lbelow_call (wx := ?_) ?_ ?_; rotate_left 2; assumption))))
  clear hK K hHeld
  have hHeld := hNew
  clear hNew
  try simp only [Act.put, List.setIfInBounds_toArray, List.set_cons_zero, List.set_cons_succ]
  refine wpAnyH_take (i := 32) (oi := { dst := some 125, op := Go.Op.pick (Go.Operand.tmp 120) (Go.Operand.tmp 124) (Go.Operand.const (Go.Value.bool false)), type := 4, pos := "outright.go:38", after := #[{ on := 27, ground := Go.Ground.data }, { on := 31, ground := Go.Ground.data }], guard := none }) (v := ?_) rfl (by kernel_rfl) (by kernel_rfl) (by kernel_rfl) (fun _ _ _ h => h) (Or.inl ⟨by rfl, ?_⟩) (by assumption) ?_
  rotate_left
  focus ((intro w hSw; (try dsimp only at hSw); go_simp) <;> (with_reducible rfl))
  try simp only [Act.put, List.setIfInBounds_toArray, List.set_cons_zero, List.set_cons_succ]
  refine wpAnyH_take (i := 33) (oi := { dst := some 126, op := Go.Op.move (Go.Operand.tmp 125), type := 4, pos := "outright.go:38", after := #[{ on := 32, ground := Go.Ground.data }, { on := 31, ground := Go.Ground.chain }], guard := none }) (v := ?_) rfl (by kernel_rfl) (by kernel_rfl) (by kernel_rfl) (fun _ _ _ h => h) (Or.inl ⟨by rfl, ?_⟩) (by assumption) ?_
  rotate_left
  focus ((intro w hSw; (try dsimp only at hSw); go_simp) <;> (with_reducible rfl))
  try simp only [Act.put, List.setIfInBounds_toArray, List.set_cons_zero, List.set_cons_succ]
  refine wpAnyH_take (i := 34) (oi := { dst := some 127, op := Go.Op.move (Go.Operand.tmp 13), type := 9, pos := "outright.go:38", after := #[{ on := 33, ground := Go.Ground.guard }], guard := some (33, true) }) (v := ?_) rfl (by kernel_rfl) (by kernel_rfl) (by kernel_rfl) (fun _ _ _ h => h) (Or.inl ⟨by rfl, ?_⟩) (by assumption) ?_
  rotate_left
  focus ((intro w hSw; (try dsimp only at hSw); go_simp) <;> (with_reducible rfl))
  try simp only [Act.put, List.setIfInBounds_toArray, List.set_cons_zero, List.set_cons_succ]
  refine wpAnyH_take (i := 35) (oi := { dst := some 128, op := Go.Op.binOp Go.BinOp.eql 9 (Go.Operand.tmp 127) (Go.Operand.const (Go.Value.string { data := #[99, 100] })) 9, type := 4, pos := "outright.go:38", after := #[{ on := 34, ground := Go.Ground.data }, { on := 33, ground := Go.Ground.guard }], guard := some (33, true) }) (v := ?_) rfl (by kernel_rfl) (by kernel_rfl) (by kernel_rfl) (fun _ _ _ h => h) (Or.inl ⟨by rfl, ?_⟩) (by assumption) ?_
  rotate_left
  focus ((intro w hSw; (try dsimp only at hSw); go_simp) <;> (with_reducible rfl))
  try simp only [Act.put, List.setIfInBounds_toArray, List.set_cons_zero, List.set_cons_succ]
  refine wpAnyH_take (i := 36) (oi := { dst := some 129, op := Go.Op.pick (Go.Operand.tmp 126) (Go.Operand.tmp 128) (Go.Operand.const (Go.Value.bool false)), type := 4, pos := "outright.go:38", after := #[{ on := 33, ground := Go.Ground.data }, { on := 35, ground := Go.Ground.data }], guard := none }) (v := ?_) rfl (by kernel_rfl) (by kernel_rfl) (by kernel_rfl) (fun _ _ _ h => h) (Or.inl ⟨by rfl, ?_⟩) (by assumption) ?_
  rotate_left
  focus ((intro w hSw; (try dsimp only at hSw); go_simp) <;> (with_reducible rfl))
  try simp only [Act.put, List.setIfInBounds_toArray, List.set_cons_zero, List.set_cons_succ]
  refine wpAnyH_take (i := 37) (oi := { dst := some 130, op := Go.Op.move (Go.Operand.tmp 129), type := 4, pos := "outright.go:38", after := #[{ on := 36, ground := Go.Ground.data }, { on := 33, ground := Go.Ground.chain }], guard := none }) (v := ?_) rfl (by kernel_rfl) (by kernel_rfl) (by kernel_rfl) (fun _ _ _ h => h) (Or.inl ⟨by rfl, ?_⟩) (by assumption) ?_
  rotate_left
  focus ((intro w hSw; (try dsimp only at hSw); go_simp) <;> (with_reducible rfl))
  try simp only [Act.put, List.setIfInBounds_toArray, List.set_cons_zero, List.set_cons_succ]
  refine wpAnyH_take (i := 38) (oi := { dst := some 131, op := Go.Op.move (Go.Operand.tmp 14), type := 29, pos := "outright.go:38", after := #[{ on := 37, ground := Go.Ground.guard }], guard := some (37, true) }) (v := ?_) rfl (by kernel_rfl) (by kernel_rfl) (by kernel_rfl) (fun _ _ _ h => h) (Or.inl ⟨by rfl, ?_⟩) (by assumption) ?_
  rotate_left
  focus ((intro w hSw; (try dsimp only at hSw); go_simp) <;> (with_reducible rfl))
  try simp only [Act.put, List.setIfInBounds_toArray, List.set_cons_zero, List.set_cons_succ]
  refine wpAnyH_take (i := 39) (oi := { dst := some 132, op := Go.Op.binOp Go.BinOp.eql 29 (Go.Operand.tmp 131) (Go.Operand.const (Go.Value.int Go.IntKind.i64 0)) 29, type := 4, pos := "outright.go:38", after := #[{ on := 38, ground := Go.Ground.data }, { on := 37, ground := Go.Ground.guard }], guard := some (37, true) }) (v := ?_) rfl (by kernel_rfl) (by kernel_rfl) (by kernel_rfl) (fun _ _ _ h => h) (Or.inl ⟨by rfl, ?_⟩) (by assumption) ?_
  rotate_left
  focus ((intro w hSw; (try dsimp only at hSw); go_simp) <;> (with_reducible rfl))
  try simp only [Act.put, List.setIfInBounds_toArray, List.set_cons_zero, List.set_cons_succ]
  refine wpAnyH_take (i := 40) (oi := { dst := some 133, op := Go.Op.pick (Go.Operand.tmp 130) (Go.Operand.tmp 132) (Go.Operand.const (Go.Value.bool false)), type := 4, pos := "outright.go:38", after := #[{ on := 37, ground := Go.Ground.data }, { on := 39, ground := Go.Ground.data }], guard := none }) (v := ?_) rfl (by kernel_rfl) (by kernel_rfl) (by kernel_rfl) (fun _ _ _ h => h) (Or.inl ⟨by rfl, ?_⟩) (by assumption) ?_
  rotate_left
  focus ((intro w hSw; (try dsimp only at hSw); go_simp) <;> (with_reducible rfl))
  try simp only [Act.put, List.setIfInBounds_toArray, List.set_cons_zero, List.set_cons_succ]
  refine wpAnyH_take (i := 41) (oi := { dst := some 134, op := Go.Op.move (Go.Operand.tmp 133), type := 4, pos := "outright.go:38", after := #[{ on := 40, ground := Go.Ground.data }, { on := 37, ground := Go.Ground.chain }], guard := none }) (v := ?_) rfl (by kernel_rfl) (by kernel_rfl) (by kernel_rfl) (fun _ _ _ h => h) (Or.inl ⟨by rfl, ?_⟩) (by assumption) ?_
  rotate_left
  focus ((intro w hSw; (try dsimp only at hSw); go_simp) <;> (with_reducible rfl))
  try simp only [Act.put, List.setIfInBounds_toArray, List.set_cons_zero, List.set_cons_succ]
  refine wpAnyH_take (i := 42) (oi := { dst := some 135, op := Go.Op.move (Go.Operand.tmp 15), type := 9, pos := "outright.go:38", after := #[{ on := 41, ground := Go.Ground.guard }], guard := some (41, true) }) (v := ?_) rfl (by kernel_rfl) (by kernel_rfl) (by kernel_rfl) (fun _ _ _ h => h) (Or.inl ⟨by rfl, ?_⟩) (by assumption) ?_
  rotate_left
  focus ((intro w hSw; (try dsimp only at hSw); go_simp) <;> (with_reducible rfl))
  try simp only [Act.put, List.setIfInBounds_toArray, List.set_cons_zero, List.set_cons_succ]
  refine wpAnyH_take (i := 43) (oi := { dst := some 136, op := Go.Op.binOp Go.BinOp.eql 9 (Go.Operand.tmp 135) (Go.Operand.const (Go.Value.string { data := #[97, 98, 13, 10] })) 9, type := 4, pos := "outright.go:38", after := #[{ on := 42, ground := Go.Ground.data }, { on := 41, ground := Go.Ground.guard }], guard := some (41, true) }) (v := ?_) rfl (by kernel_rfl) (by kernel_rfl) (by kernel_rfl) (fun _ _ _ h => h) (Or.inl ⟨by rfl, ?_⟩) (by assumption) ?_
  rotate_left
  focus ((intro w hSw; (try dsimp only at hSw); go_simp) <;> (with_reducible rfl))
  try simp only [Act.put, List.setIfInBounds_toArray, List.set_cons_zero, List.set_cons_succ]
  refine wpAnyH_take (i := 44) (oi := { dst := some 137, op := Go.Op.pick (Go.Operand.tmp 134) (Go.Operand.tmp 136) (Go.Operand.const (Go.Value.bool false)), type := 4, pos := "outright.go:38", after := #[{ on := 41, ground := Go.Ground.data }, { on := 43, ground := Go.Ground.data }], guard := none }) (v := ?_) rfl (by kernel_rfl) (by kernel_rfl) (by kernel_rfl) (fun _ _ _ h => h) (Or.inl ⟨by rfl, ?_⟩) (by assumption) ?_
  rotate_left
  focus ((intro w hSw; (try dsimp only at hSw); go_simp) <;> (with_reducible rfl))
  try simp only [Act.put, List.setIfInBounds_toArray, List.set_cons_zero, List.set_cons_succ]
  refine wpAnyH_take (i := 45) (oi := { dst := some 138, op := Go.Op.move (Go.Operand.tmp 137), type := 4, pos := "outright.go:38", after := #[{ on := 44, ground := Go.Ground.data }, { on := 41, ground := Go.Ground.chain }], guard := none }) (v := ?_) rfl (by kernel_rfl) (by kernel_rfl) (by kernel_rfl) (fun _ _ _ h => h) (Or.inl ⟨by rfl, ?_⟩) (by assumption) ?_
  rotate_left
  focus ((intro w hSw; (try dsimp only at hSw); go_simp) <;> (with_reducible rfl))
  try simp only [Act.put, List.setIfInBounds_toArray, List.set_cons_zero, List.set_cons_succ]
  refine wpAnyH_take (i := 46) (oi := { dst := some 139, op := Go.Op.move (Go.Operand.tmp 16), type := 29, pos := "outright.go:38", after := #[{ on := 45, ground := Go.Ground.guard }], guard := some (45, true) }) (v := ?_) rfl (by kernel_rfl) (by kernel_rfl) (by kernel_rfl) (fun _ _ _ h => h) (Or.inl ⟨by rfl, ?_⟩) (by assumption) ?_
  rotate_left
  focus ((intro w hSw; (try dsimp only at hSw); go_simp) <;> (with_reducible rfl))
  try simp only [Act.put, List.setIfInBounds_toArray, List.set_cons_zero, List.set_cons_succ]
  refine wpAnyH_take (i := 47) (oi := { dst := some 140, op := Go.Op.binOp Go.BinOp.eql 29 (Go.Operand.tmp 139) (Go.Operand.const (Go.Value.int Go.IntKind.i64 0)) 29, type := 4, pos := "outright.go:38", after := #[{ on := 46, ground := Go.Ground.data }, { on := 45, ground := Go.Ground.guard }], guard := some (45, true) }) (v := ?_) rfl (by kernel_rfl) (by kernel_rfl) (by kernel_rfl) (fun _ _ _ h => h) (Or.inl ⟨by rfl, ?_⟩) (by assumption) ?_
  rotate_left
  focus ((intro w hSw; (try dsimp only at hSw); go_simp) <;> (with_reducible rfl))
  try simp only [Act.put, List.setIfInBounds_toArray, List.set_cons_zero, List.set_cons_succ]
  refine wpAnyH_take (i := 48) (oi := { dst := some 141, op := Go.Op.pick (Go.Operand.tmp 138) (Go.Operand.tmp 140) (Go.Operand.const (Go.Value.bool false)), type := 4, pos := "outright.go:38", after := #[{ on := 45, ground := Go.Ground.data }, { on := 47, ground := Go.Ground.data }], guard := none }) (v := ?_) rfl (by kernel_rfl) (by kernel_rfl) (by kernel_rfl) (fun _ _ _ h => h) (Or.inl ⟨by rfl, ?_⟩) (by assumption) ?_
  rotate_left
  focus ((intro w hSw; (try dsimp only at hSw); go_simp) <;> (with_reducible rfl))
  try simp only [Act.put, List.setIfInBounds_toArray, List.set_cons_zero, List.set_cons_succ]
  refine wpAnyH_take (i := 49) (oi := { dst := some 142, op := Go.Op.move (Go.Operand.tmp 141), type := 4, pos := "outright.go:38", after := #[{ on := 48, ground := Go.Ground.data }, { on := 45, ground := Go.Ground.chain }], guard := none }) (v := ?_) rfl (by kernel_rfl) (by kernel_rfl) (by kernel_rfl) (fun _ _ _ h => h) (Or.inl ⟨by rfl, ?_⟩) (by assumption) ?_
  rotate_left
  focus ((intro w hSw; (try dsimp only at hSw); go_simp) <;> (with_reducible rfl))
  try simp only [Act.put, List.setIfInBounds_toArray, List.set_cons_zero, List.set_cons_succ]
  refine wpAnyH_take (i := 50) (oi := { dst := some 143, op := Go.Op.move (Go.Operand.tmp 18), type := 29, pos := "outright.go:38", after := #[{ on := 49, ground := Go.Ground.guard }], guard := some (49, true) }) (v := ?_) rfl (by kernel_rfl) (by kernel_rfl) (by kernel_rfl) (fun _ _ _ h => h) (Or.inl ⟨by rfl, ?_⟩) (by assumption) ?_
  rotate_left
  focus ((intro w hSw; (try dsimp only at hSw); go_simp) <;> (with_reducible rfl))
  try simp only [Act.put, List.setIfInBounds_toArray, List.set_cons_zero, List.set_cons_succ]
  refine wpAnyH_take (i := 51) (oi := { dst := some 144, op := Go.Op.binOp Go.BinOp.eql 29 (Go.Operand.tmp 143) (Go.Operand.const (Go.Value.int Go.IntKind.i64 3)) 29, type := 4, pos := "outright.go:38", after := #[{ on := 50, ground := Go.Ground.data }, { on := 49, ground := Go.Ground.guard }], guard := some (49, true) }) (v := ?_) rfl (by kernel_rfl) (by kernel_rfl) (by kernel_rfl) (fun _ _ _ h => h) (Or.inl ⟨by rfl, ?_⟩) (by assumption) ?_
  rotate_left
  focus ((intro w hSw; (try dsimp only at hSw); go_simp) <;> (with_reducible rfl))
  try simp only [Act.put, List.setIfInBounds_toArray, List.set_cons_zero, List.set_cons_succ]
  refine wpAnyH_take (i := 52) (oi := { dst := some 145, op := Go.Op.pick (Go.Operand.tmp 142) (Go.Operand.tmp 144) (Go.Operand.const (Go.Value.bool false)), type := 4, pos := "outright.go:38", after := #[{ on := 49, ground := Go.Ground.data }, { on := 51, ground := Go.Ground.data }], guard := none }) (v := ?_) rfl (by kernel_rfl) (by kernel_rfl) (by kernel_rfl) (fun _ _ _ h => h) (Or.inl ⟨by rfl, ?_⟩) (by assumption) ?_
  rotate_left
  focus ((intro w hSw; (try dsimp only at hSw); go_simp) <;> (with_reducible rfl))
  try simp only [Act.put, List.setIfInBounds_toArray, List.set_cons_zero, List.set_cons_succ]
  refine wpAnyH_take (i := 53) (oi := { dst := some 146, op := Go.Op.move (Go.Operand.tmp 145), type := 4, pos := "outright.go:38", after := #[{ on := 52, ground := Go.Ground.data }, { on := 49, ground := Go.Ground.chain }], guard := none }) (v := ?_) rfl (by kernel_rfl) (by kernel_rfl) (by kernel_rfl) (fun _ _ _ h => h) (Or.inl ⟨by rfl, ?_⟩) (by assumption) ?_
  rotate_left
  focus ((intro w hSw; (try dsimp only at hSw); go_simp) <;> (with_reducible rfl))
  try simp only [Act.put, List.setIfInBounds_toArray, List.set_cons_zero, List.set_cons_succ]
  refine wpAnyH_ready (rs := [54]) (by kernel_rfl) (by simp) ?_
  refine AllReadyH.cons (o := { dst := some 147, op := Go.Op.call { callee := Go.Callee.value (Go.Operand.func 18), args := #[], argTypes := #[] }, type := 4, pos := "outright.go:38", after := #[{ on := 53, ground := Go.Ground.chain }, { on := 53, ground := Go.Ground.guard }], guard := some (53, true) }) rfl (fun K hK => ?_) AllReadyH.nil
  go_simp
  (go_at_call 18; refine (lawake_any _).mono ?_; rintro e we ⟨rfl, hb5⟩)
  first | (go_wp2_with fail) | skip
  refine hK.out _ _ ?_ (fun hNew => ?_)
  focus ((try dsimp only); (refine K4.out _ ?_; repeat' (first | (with_reducible exact hHeld.1) | (with_reducible assumption) | (with_reducible exact Below.refl _ _) | (with_reducible refine Below.drew ?_) | (with_reducible refine lbelow_one _ ?_) | (refine lbelow_call (wx := ?_) ?_ ?_; rotate_left 2; assumption))))
  clear hK K hHeld
  have hHeld := hNew
  clear hNew
  try simp only [Act.put, List.setIfInBounds_toArray, List.set_cons_zero, List.set_cons_succ]
  refine wpAnyH_take (i := 55) (oi := { dst := some 148, op := Go.Op.pick (Go.Operand.tmp 146) (Go.Operand.tmp 147) (Go.Operand.const (Go.Value.bool false)), type := 4, pos := "outright.go:38", after := #[{ on := 53, ground := Go.Ground.data }, { on := 54, ground := Go.Ground.data }], guard := none }) (v := ?_) rfl (by kernel_rfl) (by kernel_rfl) (by kernel_rfl) (fun _ _ _ h => h) (Or.inl ⟨by rfl, ?_⟩) (by assumption) ?_
  rotate_left
  focus ((intro w hSw; (try dsimp only at hSw); go_simp) <;> (with_reducible rfl))
  try simp only [Act.put, List.setIfInBounds_toArray, List.set_cons_zero, List.set_cons_succ]
  refine wpAnyH_take (i := 56) (oi := { dst := some 0, op := Go.Op.assign (Go.Operand.tmp 148), type := 4, pos := "outright.go:38", after := #[{ on := 55, ground := Go.Ground.data }, { on := 54, ground := Go.Ground.chain }, { on := 0, ground := Go.Ground.phase }, { on := 1, ground := Go.Ground.phase }, { on := 2, ground := Go.Ground.phase }, { on := 3, ground := Go.Ground.phase }, { on := 4, ground := Go.Ground.phase }, { on := 5, ground := Go.Ground.phase }, { on := 6, ground := Go.Ground.phase }, { on := 7, ground := Go.Ground.phase }, { on := 8, ground := Go.Ground.phase }, { on := 9, ground := Go.Ground.phase }, { on := 10, ground := Go.Ground.phase }, { on := 11, ground := Go.Ground.phase }, { on := 12, ground := Go.Ground.phase }, { on := 13, ground := Go.Ground.phase }, { on := 14, ground := Go.Ground.phase }, { on := 15, ground := Go.Ground.phase }, { on := 16, ground := Go.Ground.phase }, { on := 17, ground := Go.Ground.phase }, { on := 18, ground := Go.Ground.phase }, { on := 19, ground := Go.Ground.phase }, { on := 20, ground := Go.Ground.phase }, { on := 21, ground := Go.Ground.phase }, { on := 22, ground := Go.Ground.phase }, { on := 23, ground := Go.Ground.phase }, { on := 24, ground := Go.Ground.phase }, { on := 25, ground := Go.Ground.phase }, { on := 26, ground := Go.Ground.phase }, { on := 27, ground := Go.Ground.phase }, { on := 28, ground := Go.Ground.phase }, { on := 29, ground := Go.Ground.phase }, { on := 30, ground := Go.Ground.phase }, { on := 31, ground := Go.Ground.phase }, { on := 32, ground := Go.Ground.phase }, { on := 33, ground := Go.Ground.phase }, { on := 34, ground := Go.Ground.phase }, { on := 35, ground := Go.Ground.phase }, { on := 36, ground := Go.Ground.phase }, { on := 37, ground := Go.Ground.phase }, { on := 38, ground := Go.Ground.phase }, { on := 39, ground := Go.Ground.phase }, { on := 40, ground := Go.Ground.phase }, { on := 41, ground := Go.Ground.phase }, { on := 42, ground := Go.Ground.phase }, { on := 43, ground := Go.Ground.phase }, { on := 44, ground := Go.Ground.phase }, { on := 45, ground := Go.Ground.phase }, { on := 46, ground := Go.Ground.phase }, { on := 47, ground := Go.Ground.phase }, { on := 48, ground := Go.Ground.phase }, { on := 49, ground := Go.Ground.phase }, { on := 50, ground := Go.Ground.phase }, { on := 51, ground := Go.Ground.phase }, { on := 52, ground := Go.Ground.phase }, { on := 53, ground := Go.Ground.phase }, { on := 54, ground := Go.Ground.phase }, { on := 55, ground := Go.Ground.phase }], guard := none }) (v := ?_) rfl (by kernel_rfl) (by kernel_rfl) (by kernel_rfl) (fun _ _ _ h => h) (Or.inl ⟨by rfl, ?_⟩) (by assumption) ?_
  rotate_left
  focus ((intro w hSw; (try dsimp only at hSw); go_simp) <;> (with_reducible rfl))
  try simp only [Act.put, List.setIfInBounds_toArray, List.set_cons_zero]
  refine wpAnyH_done (by kernel_rfl) ?_ _
  refine NoPanic.normal ?_
  go_wp2_with fail
  go_ret
  exact ⟨rfl, HBW.out.trans (hHeld.1.mono HBW.out.size)⟩
end Go.Proofs.Ytfagjhadfonhdaa
