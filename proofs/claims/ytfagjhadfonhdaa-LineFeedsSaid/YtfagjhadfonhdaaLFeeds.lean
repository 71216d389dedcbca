/-
  The law LineFeeds returns true for every input.
-/
import Derived.Test.YtfagjhadfonhdaaLHelp
import Derived.Test.YtfagjhadfonhdaaLQOne
import Derived.Test.YtfagjhadfonhdaaLRest
namespace Go.Proofs.Ytfagjhadfonhdaa
open Go.RowKit
theorem bp_new (t : TypeId) (w : World) (B : Nat) (a b c : Value) (x y : Value) : CBlk t ((((w.setCell ⟨B, 0, none⟩ a).setCell ⟨B, 1, none⟩ b).setCell ⟨B, 2, none⟩ c).alloc (.cells #[x, y] t)) w.heap.size [x, y] := by
  have h := CBlk.new t (((w.setCell ⟨B, 0, none⟩ a).setCell ⟨B, 1, none⟩ b).setCell ⟨B, 2, none⟩ c) [x, y]
  simpa using h
set_option maxRecDepth 100000 in
set_option maxHeartbeats 16000000 in
theorem feeds_law (l : Sp) (n : Int) (c : List UInt8) (w : World) :
    Calls Try.prog 4 #[spV l, .int .i64 n, .string ⟨c.toArray⟩] w fun e w' => e = .returned (.bool true) ∧ Below w.heap.size w w' := by
  obtain ⟨ln, lt, lg⟩ := l
  unfold spV
  dsimp only
  by_cases hbig : 2000 < lt.length ∨ 2000 < c.length
  · have hB := (Below.refl w.heap.size w).alloc (Nat.le_refl _) (.cells #[.int .i64 ln, .string ⟨lt.toArray⟩, .bool lg] 24)
    by_cases h1 : 2000 < lt.length
    · have d1 : decide ((2000 : Int) < (lt.length : Int)) = true := decide_eq_true (by omega)
      clear h1 hbig
      go_enter Try.func4, Try.ntmps4
      go_wp2_with fail
      refine (lawake_any _).mono ?_
      rintro e w1 ⟨rfl, hb⟩
      have hB := hB.trans (hb.mono hB.size)
      clear hb
      go_wp2_with fail
      go_ret
      exact ⟨rfl, hB⟩
    · have d1 : decide ((2000 : Int) < (lt.length : Int)) = false := decide_eq_false (by omega)
      have d2 : decide ((2000 : Int) < (c.length : Int)) = true := decide_eq_true (by omega)
      clear h1 hbig
      go_enter Try.func4, Try.ntmps4
      go_wp2_with fail
      refine (lawake_any _).mono ?_
      rintro e w1 ⟨rfl, hb⟩
      have hB := hB.trans (hb.mono hB.size)
      clear hb
      go_wp2_with fail
      go_ret
      exact ⟨rfl, hB⟩
  · have d1 : decide ((2000 : Int) < (lt.length : Int)) = false := decide_eq_false (by omega)
    have d2 : decide ((2000 : Int) < (c.length : Int)) = false := decide_eq_false (by omega)
    have hlt : lt.length ≤ 2000 := by omega
    have hlc : c.length ≤ 2000 := by omega
    obtain ⟨⟨⟨nn, nt, ng⟩, ne⟩, hN⟩ : ∃ z, newR n = z := ⟨_, rfl⟩
    have HN : Hid (newV n = .tuple #[.agg #[.int .i64 nn, .string ⟨nt.toArray⟩, .bool ng], .int .i64 (ne : Nat)]) := Lib.hid (by unfold newV; rw [hN]; rfl)
    obtain ⟨k, hk⟩ : ∃ k, chkS ⟨ln, lt, lg⟩ = k := ⟨_, rfl⟩
    have HK := Lib.hid hk
    obtain ⟨⟨⟨⟨fn, ft, fg⟩, FL⟩, fe⟩, hF⟩ : ∃ z, feedR ⟨ln, lt, lg⟩ c = z := ⟨_, rfl⟩
    have HF := Lib.hid hF
    obtain ⟨⟨⟨on, ot, og⟩, ⟨xt, xg⟩, rest, is⟩, hO⟩ : ∃ z, oneR ⟨ln, lt, lg⟩ c = z := ⟨_, rfl⟩
    obtain ⟨oe, hoe⟩ : ∃ z, errS ⟨ln, lt, lg⟩ = z := ⟨_, rfl⟩
    have HO : Hid (oneV ⟨ln, lt, lg⟩ c = .tuple #[.agg #[.int .i64 on, .string ⟨ot.toArray⟩, .bool og], .agg #[.string ⟨xt.toArray⟩, .bool xg], .string ⟨rest.toArray⟩, .bool is, .int .i64 (oe : Nat)]) := Lib.hid (by unfold oneV; rw [hO, hoe]; rfl)
    obtain ⟨rt, re, hS⟩ : ∃ t x, restV ⟨ln, lt, lg⟩ = .tuple #[.string ⟨t⟩, .int .i64 x] := by
      unfold restV
      split
      · exact ⟨_, _, rfl⟩
      · exact ⟨_, _, rfl⟩
    have HS := Lib.hid hS
    have HFL : Hid (FL.length < 10000) := Lib.hid (by
      have h := hF
      unfold feedR at h
      split at h
      · have := feed_len ln c lt
        rw [Prod.mk.injEq] at h
        dsimp only at h
        rw [h.1] at this
        dsimp only at this
        omega
      · injection h with h1 _
        injection h1 with _ h2
        rw [← h2]
        simp)
    clear hbig hN hk hF hO hoe hS
    have hBW := (Below.refl w.heap.size w).alloc (Nat.le_refl _) (.cells #[.int .i64 ln, .string ⟨lt.toArray⟩, .bool lg] 24)
    have hbl := CBlk.new 24 w [.int .i64 ln, .string ⟨lt.toArray⟩, .bool lg]
    obtain ⟨W1, hW1⟩ : ∃ W, w.alloc (.cells #[.int .i64 ln, .string ⟨lt.toArray⟩, .bool lg] 24) = W := ⟨_, rfl⟩
    have Hbl := Lib.hid (show CBlk 24 W1 w.heap.size [.int .i64 ln, .string ⟨lt.toArray⟩, .bool lg] by rw [← hW1]; exact hbl)
    have HBW := Lib.hid (show Below w.heap.size w W1 by rw [← hW1]; exact hBW)
    have HW := Lib.hid hW1
    clear hbl hBW hW1
    go_enter Try.func4, Try.ntmps4
    go_upto_region 1 with fail
    rw [HW.out]
    clear HW
    obtain ⟨bl0, bl1, bl2⟩ := Hbl.out.cells3
    go_wp2_with fail
    refine (lnew_any n _).mono ?_
    rintro e w1 ⟨rfl, hb⟩
    rw [HN.out]
    have Hbl := Lib.hid (Hbl.out.below hb Hbl.out.lt)
    have HBW := Lib.hid (HBW.out.trans (hb.mono HBW.out.size))
    clear hb
    have z1 : w.heap.size < w1.heap.size := Hbl.out.lt
    obtain ⟨W2, hW2⟩ : ∃ W, w1.alloc (.cells #[.int .i64 nn, .string ⟨nt.toArray⟩, .bool ng] 24) = W := ⟨_, rfl⟩
    have Hbl := Lib.hid (show CBlk 24 W2 (w.heap.size) [.int .i64 ln, .string ⟨lt.toArray⟩, .bool lg] by rw [← hW2]; exact Hbl.out.alloc _)
    have Hb7 := Lib.hid (show CBlk 24 W2 (w1.heap.size) [.int .i64 nn, .string ⟨nt.toArray⟩, .bool ng] by rw [← hW2]; exact CBlk.new _ _ _)
    have HBW := Lib.hid (show Below w.heap.size w W2 by rw [← hW2]; exact HBW.out.alloc HBW.out.size _)
    have HW := Lib.hid hW2
    clear hW2
    go_upto_region 4 with fail
    rw [HW.out]
    clear HW
    obtain ⟨bl0, bl1, bl2⟩ := Hbl.out.cells3
    obtain ⟨b70, b71, b72⟩ := Hb7.out.cells3
    have b7f0 := Hb7.out.free 0
    have b7f1 := Hb7.out.free 1
    have b7f2 := Hb7.out.free 2
    go_wp2_with fail
    refine (refNew_any n _).mono ?_
    rintro e w2 ⟨rfl, hb⟩
    rw [HN.out]
    have Hbl := Lib.hid (Hbl.out.below hb Hbl.out.lt)
    have Hb7 := Lib.hid (Hb7.out.below hb Hb7.out.lt)
    have HBW := Lib.hid (HBW.out.trans (hb.mono HBW.out.size))
    clear hb
    have z2 : w1.heap.size < w2.heap.size := Hb7.out.lt
    obtain ⟨W3, hW3⟩ : ∃ W, w2.alloc (.cells #[.int .i64 nn, .string ⟨nt.toArray⟩, .bool ng] 24) = W := ⟨_, rfl⟩
    have Hbl := Lib.hid (show CBlk 24 W3 (w.heap.size) [.int .i64 ln, .string ⟨lt.toArray⟩, .bool lg] by rw [← hW3]; exact Hbl.out.alloc _)
    have Hb7 := Lib.hid (show CBlk 24 W3 (w1.heap.size) [.int .i64 nn, .string ⟨nt.toArray⟩, .bool ng] by rw [← hW3]; exact Hb7.out.alloc _)
    have Hb9 := Lib.hid (show CBlk 24 W3 (w2.heap.size) [.int .i64 nn, .string ⟨nt.toArray⟩, .bool ng] by rw [← hW3]; exact CBlk.new _ _ _)
    have HBW := Lib.hid (show Below w.heap.size w W3 by rw [← hW3]; exact HBW.out.alloc HBW.out.size _)
    have HW := Lib.hid hW3
    clear hW3
    go_upto_region 5 with fail
    rw [HW.out]
    clear HW
    obtain ⟨bl0, bl1, bl2⟩ := Hbl.out.cells3
    obtain ⟨b70, b71, b72⟩ := Hb7.out.cells3
    have b7f0 := Hb7.out.free 0
    have b7f1 := Hb7.out.free 1
    have b7f2 := Hb7.out.free 2
    obtain ⟨b90, b91, b92⟩ := Hb9.out.cells3
    have b9f0 := Hb9.out.free 0
    have b9f1 := Hb9.out.free 1
    have b9f2 := Hb9.out.free 2
    have K4 : Hid (∀ wx, Below W3.heap.size W3 wx → (fun wx => Below W3.heap.size W3 wx ∧ wx.cell? ⟨w.heap.size, 0, none⟩ = some (.int .i64 ln) ∧ wx.cell? ⟨w.heap.size, 1, none⟩ = some (.string ⟨lt.toArray⟩) ∧ wx.cell? ⟨w.heap.size, 2, none⟩ = some (.bool lg) ∧ wx.cell? ⟨w1.heap.size, 0, none⟩ = some (.int .i64 nn) ∧ wx.cell? ⟨w1.heap.size, 1, none⟩ = some (.string ⟨nt.toArray⟩) ∧ wx.cell? ⟨w1.heap.size, 2, none⟩ = some (.bool ng) ∧ wx.cell? ⟨w2.heap.size, 0, none⟩ = some (.int .i64 nn) ∧ wx.cell? ⟨w2.heap.size, 1, none⟩ = some (.string ⟨nt.toArray⟩) ∧ wx.cell? ⟨w2.heap.size, 2, none⟩ = some (.bool ng)) wx) := Lib.hid (fun wx hx => by
      have d1 := Hbl.out.below hx Hbl.out.lt
      have d2 := Hb7.out.below hx Hb7.out.lt
      have d3 := Hb9.out.below hx Hb9.out.lt
      exact ⟨hx, d1.cells3.1, d1.cells3.2.1, d1.cells3.2.2, d2.cells3.1, d2.cells3.2.1, d2.cells3.2.2, d3.cells3.1, d3.cells3.2.1, d3.cells3.2.2⟩)
    refine wp_region_noPanic ?_
    refine wp_region_held_drew (S := fun wx => Below W3.heap.size W3 wx ∧ wx.cell? ⟨w.heap.size, 0, none⟩ = some (.int .i64 ln) ∧ wx.cell? ⟨w.heap.size, 1, none⟩ = some (.string ⟨lt.toArray⟩) ∧ wx.cell? ⟨w.heap.size, 2, none⟩ = some (.bool lg) ∧ wx.cell? ⟨w1.heap.size, 0, none⟩ = some (.int .i64 nn) ∧ wx.cell? ⟨w1.heap.size, 1, none⟩ = some (.string ⟨nt.toArray⟩) ∧ wx.cell? ⟨w1.heap.size, 2, none⟩ = some (.bool ng) ∧ wx.cell? ⟨w2.heap.size, 0, none⟩ = some (.int .i64 nn) ∧ wx.cell? ⟨w2.heap.size, 1, none⟩ = some (.string ⟨nt.toArray⟩) ∧ wx.cell? ⟨w2.heap.size, 2, none⟩ = some (.bool ng)) (by kernel_rfl) ?_ (fun hHeld => ?_)
    focus ((try dsimp only); (refine K4.out _ ?_; repeat' (first | (with_reducible exact hHeld.1) | (with_reducible assumption) | (with_reducible exact Below.refl _ _) | (with_reducible refine Below.drew ?_) | (with_reducible refine lbelow_one _ ?_) | (refine lbelow_call (wx := ?_) ?_ ?_; rotate_left 2; assumption))))
    try simp only [Act.put, List.setIfInBounds_toArray, List.set_cons_zero, List.set_cons_succ]
    refine wpAnyH_take (i := 0) (oi := { dst := some 41, op := Go.Op.load 24 (Go.Operand.tmp 7), type := 24, pos := "law.go:19", after := #[], guard := none }) (v := ?_) rfl (by kernel_rfl) (by kernel_rfl) (by kernel_rfl) (fun _ _ _ h => h) (Or.inl ⟨by rfl, ?_⟩) (by assumption) ?_
    rotate_left
    focus ((intro w hSw; (try dsimp only at hSw); go_simp) <;> (with_reducible rfl))
    try simp only [Act.put, List.setIfInBounds_toArray, List.set_cons_zero, List.set_cons_succ]
    refine wpAnyH_take (i := 1) (oi := { dst := some 42, op := Go.Op.load 24 (Go.Operand.tmp 9), type := 24, pos := "law.go:19", after := #[], guard := none }) (v := ?_) rfl (by kernel_rfl) (by kernel_rfl) (by kernel_rfl) (fun _ _ _ h => h) (Or.inl ⟨by rfl, ?_⟩) (by assumption) ?_
    rotate_left
    focus ((intro w hSw; (try dsimp only at hSw); go_simp) <;> (with_reducible rfl))
    try simp only [Act.put, List.setIfInBounds_toArray, List.set_cons_zero, List.set_cons_succ]
    refine wpAnyH_take (i := 2) (oi := { dst := some 43, op := Go.Op.binOp Go.BinOp.neq 24 (Go.Operand.tmp 41) (Go.Operand.tmp 42) 24, type := 4, pos := "law.go:19", after := #[{ on := 0, ground := Go.Ground.data }, { on := 1, ground := Go.Ground.data }], guard := none }) (v := ?_) rfl (by kernel_rfl) (by kernel_rfl) (by kernel_rfl) (fun _ _ _ h => h) (Or.inl ⟨by rfl, ?_⟩) (by assumption) ?_
    rotate_left
    focus ((intro w hSw; (try dsimp only at hSw); go_simp) <;> (with_reducible rfl))
    try simp only [Act.put, List.setIfInBounds_toArray, List.set_cons_zero, List.set_cons_succ]
    refine wpAnyH_take (i := 3) (oi := { dst := some 44, op := Go.Op.move (Go.Operand.tmp 43), type := 4, pos := "law.go:19", after := #[{ on := 2, ground := Go.Ground.data }], guard := none }) (v := ?_) rfl (by kernel_rfl) (by kernel_rfl) (by kernel_rfl) (fun _ _ _ h => h) (Or.inl ⟨by rfl, ?_⟩) (by assumption) ?_
    rotate_left
    focus ((intro w hSw; (try dsimp only at hSw); go_simp) <;> (with_reducible rfl))
    try simp only [Act.put, List.setIfInBounds_toArray, List.set_cons_zero, List.set_cons_succ]
    refine wpAnyH_take (i := 4) (oi := { dst := some 45, op := Go.Op.move (Go.Operand.tmp 8), type := 29, pos := "law.go:19", after := #[{ on := 3, ground := Go.Ground.guard }], guard := some (3, false) }) (v := ?_) rfl (by kernel_rfl) (by kernel_rfl) (by kernel_rfl) (fun _ _ _ h => h) (Or.inl ⟨by rfl, ?_⟩) (by assumption) ?_
    rotate_left
    focus ((intro w hSw; (try dsimp only at hSw); go_simp) <;> (with_reducible rfl))
    try simp only [Act.put, List.setIfInBounds_toArray, List.set_cons_zero, List.set_cons_succ]
    refine wpAnyH_take (i := 5) (oi := { dst := some 46, op := Go.Op.move (Go.Operand.tmp 10), type := 29, pos := "law.go:19", after := #[{ on := 3, ground := Go.Ground.guard }], guard := some (3, false) }) (v := ?_) rfl (by kernel_rfl) (by kernel_rfl) (by kernel_rfl) (fun _ _ _ h => h) (Or.inl ⟨by rfl, ?_⟩) (by assumption) ?_
    rotate_left
    focus ((intro w hSw; (try dsimp only at hSw); go_simp) <;> (with_reducible rfl))
    try simp only [Act.put, List.setIfInBounds_toArray, List.set_cons_zero, List.set_cons_succ]
    refine wpAnyH_take (i := 6) (oi := { dst := some 47, op := Go.Op.binOp Go.BinOp.neq 29 (Go.Operand.tmp 45) (Go.Operand.tmp 46) 29, type := 4, pos := "law.go:19", after := #[{ on := 4, ground := Go.Ground.data }, { on := 5, ground := Go.Ground.data }, { on := 3, ground := Go.Ground.guard }], guard := some (3, false) }) (v := ?_) rfl (by kernel_rfl) (by kernel_rfl) (by kernel_rfl) (fun _ _ _ h => h) (Or.inl ⟨by rfl, ?_⟩) (by assumption) ?_
    rotate_left
    focus ((intro w hSw; (try dsimp only at hSw); go_simp) <;> (with_reducible rfl))
    try simp only [Act.put, List.setIfInBounds_toArray, List.set_cons_zero, List.set_cons_succ]
    refine wpAnyH_take (i := 7) (oi := { dst := some 48, op := Go.Op.pick (Go.Operand.tmp 44) (Go.Operand.const (Go.Value.bool true)) (Go.Operand.tmp 47), type := 4, pos := "law.go:19", after := #[{ on := 3, ground := Go.Ground.data }, { on := 6, ground := Go.Ground.data }], guard := none }) (v := ?_) rfl (by kernel_rfl) (by kernel_rfl) (by kernel_rfl) (fun _ _ _ h => h) (Or.inl ⟨by rfl, ?_⟩) (by assumption) ?_
    rotate_left
    focus ((intro w hSw; (try dsimp only at hSw); go_simp) <;> (with_reducible rfl))
    try simp only [Act.put, List.setIfInBounds_toArray, List.set_cons_zero, List.set_cons_succ]
    refine wpAnyH_take (i := 8) (oi := { dst := some 49, op := Go.Op.move (Go.Operand.tmp 48), type := 4, pos := "law.go:19", after := #[{ on := 7, ground := Go.Ground.data }, { on := 3, ground := Go.Ground.chain }], guard := none }) (v := ?_) rfl (by kernel_rfl) (by kernel_rfl) (by kernel_rfl) (fun _ _ _ h => h) (Or.inl ⟨by rfl, ?_⟩) (by assumption) ?_
    rotate_left
    focus ((intro w hSw; (try dsimp only at hSw); go_simp) <;> (with_reducible rfl))
    try simp only [Act.put, List.setIfInBounds_toArray, List.set_cons_zero, List.set_cons_succ]
    refine wpAnyH_take (i := 9) (oi := { dst := some 50, op := Go.Op.load 24 (Go.Operand.tmp 3), type := 24, pos := "law.go:19", after := #[{ on := 8, ground := Go.Ground.guard }], guard := some (8, false) }) (v := ?_) rfl (by kernel_rfl) (by kernel_rfl) (by kernel_rfl) (fun _ _ _ h => h) (Or.inl ⟨by rfl, ?_⟩) (by assumption) ?_
    rotate_left
    focus ((intro w hSw; (try dsimp only at hSw); go_simp) <;> (with_reducible rfl))
    try simp only [Act.put, List.setIfInBounds_toArray, List.set_cons_zero, List.set_cons_succ]
    refine wpAnyH_take (i := 11) (oi := { dst := some 52, op := Go.Op.load 24 (Go.Operand.tmp 3), type := 24, pos := "law.go:19", after := #[{ on := 8, ground := Go.Ground.guard }], guard := some (8, false) }) (v := ?_) rfl (by kernel_rfl) (by kernel_rfl) (by kernel_rfl) (fun _ _ _ h => h) (Or.inl ⟨by rfl, ?_⟩) (by assumption) ?_
    rotate_left
    focus ((intro w hSw; (try dsimp only at hSw); go_simp) <;> (with_reducible rfl))
    try simp only [Act.put, List.setIfInBounds_toArray, List.set_cons_zero, List.set_cons_succ]
    refine wpAnyH_ready (rs := [10]) (by kernel_rfl) (by simp) ?_
    refine AllReadyH.cons (o := { dst := some 51, op := Go.Op.call { callee := Go.Callee.value (Go.Operand.func 21), args := #[Go.Operand.tmp 50], argTypes := #[24] }, type := 29, pos := "law.go:19", after := #[{ on := 9, ground := Go.Ground.data }, { on := 8, ground := Go.Ground.chain }, { on := 8, ground := Go.Ground.guard }], guard := some (8, false) }) rfl (fun K hK => ?_) AllReadyH.nil
    go_simp
    (go_at_call 21; refine (lcheck_any ⟨ln, lt, lg⟩ (by dsimp only; omega) _).mono ?_; rintro e wa ⟨rfl, hb1⟩; rw [HK.out])
    first | (go_wp2_with fail) | skip
    refine hK.out _ _ ?_ (fun hNew => ?_)
    focus ((try dsimp only); (refine K4.out _ ?_; repeat' (first | (with_reducible exact hHeld.1) | (with_reducible assumption) | (with_reducible exact Below.refl _ _) | (with_reducible refine Below.drew ?_) | (with_reducible refine lbelow_one _ ?_) | (refine lbelow_call (wx := ?_) ?_ ?_; rotate_left 2; assumption))))
    clear hK K hHeld
    have hHeld := hNew
    clear hNew
    try simp only [Act.put, List.setIfInBounds_toArray, List.set_cons_zero, List.set_cons_succ]
    refine wpAnyH_ready (rs := [12]) (by kernel_rfl) (by simp) ?_
    refine AllReadyH.cons (o := { dst := some 53, op := Go.Op.call { callee := Go.Callee.value (Go.Operand.func 22), args := #[Go.Operand.tmp 52], argTypes := #[24] }, type := 29, pos := "law.go:19", after := #[{ on := 11, ground := Go.Ground.data }, { on := 10, ground := Go.Ground.chain }, { on := 8, ground := Go.Ground.guard }], guard := some (8, false) }) rfl (fun K hK => ?_) AllReadyH.nil
    go_simp
    (go_at_call 22; refine (refCheckS_any ⟨ln, lt, lg⟩ (by dsimp only; omega) _).mono ?_; rintro e wb ⟨rfl, hb2⟩; rw [HK.out])
    first | (go_wp2_with fail) | skip
    refine hK.out _ _ ?_ (fun hNew => ?_)
    focus ((try dsimp only); (refine K4.out _ ?_; repeat' (first | (with_reducible exact hHeld.1) | (with_reducible assumption) | (with_reducible exact Below.refl _ _) | (with_reducible refine Below.drew ?_) | (with_reducible refine lbelow_one _ ?_) | (refine lbelow_call (wx := ?_) ?_ ?_; rotate_left 2; assumption))))
    clear hK K hHeld
    have hHeld := hNew
    clear hNew
    try simp only [Act.put, List.setIfInBounds_toArray, List.set_cons_zero, List.set_cons_succ]
    refine wpAnyH_take (i := 13) (oi := { dst := some 54, op := Go.Op.binOp Go.BinOp.neq 29 (Go.Operand.tmp 51) (Go.Operand.tmp 53) 29, type := 4, pos := "law.go:19", after := #[{ on := 10, ground := Go.Ground.data }, { on := 12, ground := Go.Ground.data }, { on := 8, ground := Go.Ground.guard }], guard := some (8, false) }) (v := ?_) rfl (by kernel_rfl) (by kernel_rfl) (by kernel_rfl) (fun _ _ _ h => h) (Or.inl ⟨by rfl, ?_⟩) (by assumption) ?_
    rotate_left
    focus ((intro w hSw; (try dsimp only at hSw); go_simp) <;> (with_reducible rfl))
    try simp only [Act.put, List.setIfInBounds_toArray, List.set_cons_zero, List.set_cons_succ]
    refine wpAnyH_take (i := 14) (oi := { dst := some 55, op := Go.Op.pick (Go.Operand.tmp 49) (Go.Operand.const (Go.Value.bool true)) (Go.Operand.tmp 54), type := 4, pos := "law.go:19", after := #[{ on := 8, ground := Go.Ground.data }, { on := 13, ground := Go.Ground.data }], guard := none }) (v := ?_) rfl (by kernel_rfl) (by kernel_rfl) (by kernel_rfl) (fun _ _ _ h => h) (Or.inl ⟨by rfl, ?_⟩) (by assumption) ?_
    rotate_left
    focus ((intro w hSw; (try dsimp only at hSw); go_simp) <;> (with_reducible rfl))
    try simp only [Act.put, List.setIfInBounds_toArray, List.set_cons_zero, List.set_cons_succ]
    refine wpAnyH_done (by kernel_rfl) ?_ _
    refine NoPanic.normal ?_
    have hb := hHeld.1
    obtain ⟨W4, hW4⟩ : ∃ W, wb = W := ⟨_, rfl⟩
    subst hW4
    clear K4 hHeld hb1 hb2
    have Hbl := Lib.hid (Hbl.out.below hb Hbl.out.lt)
    have Hb7 := Lib.hid (Hb7.out.below hb Hb7.out.lt)
    have Hb9 := Lib.hid (Hb9.out.below hb Hb9.out.lt)
    have HBW := Lib.hid (HBW.out.trans (hb.mono HBW.out.size))
    clear hb
    have z7 : w1.heap.size < wb.heap.size := Hb7.out.lt
    have z9 : w2.heap.size < wb.heap.size := Hb9.out.lt
    obtain ⟨bl0, bl1, bl2⟩ := Hbl.out.cells3
    obtain ⟨b70, b71, b72⟩ := Hb7.out.cells3
    have b7f0 := Hb7.out.free 0
    have b7f1 := Hb7.out.free 1
    have b7f2 := Hb7.out.free 2
    obtain ⟨b90, b91, b92⟩ := Hb9.out.cells3
    have b9f0 := Hb9.out.free 0
    have b9f1 := Hb9.out.free 1
    have b9f2 := Hb9.out.free 2
    go_wp2_with fail
    refine (lfeed_any ⟨ln, lt, lg⟩ c (by dsimp only; omega) (by omega) _).mono ?_
    rintro e w3 ⟨⟨v1, rfl, hv1⟩, hb⟩
    rw [HF.out] at hv1 ⊢
    unfold spV
    dsimp only at hv1 ⊢
    have Hbl := Lib.hid (Hbl.out.below hb Hbl.out.lt)
    have Hb7 := Lib.hid (Hb7.out.below hb Hb7.out.lt)
    have Hb9 := Lib.hid (Hb9.out.below hb Hb9.out.lt)
    have HBW := Lib.hid (HBW.out.trans (hb.mono HBW.out.size))
    clear hb
    obtain ⟨p1, k1, rfl, -⟩ := id hv1
    have HV1 := Lib.hid hv1
    clear hv1
    obtain ⟨bl0, bl1, bl2⟩ := Hbl.out.cells3
    obtain ⟨b70, b71, b72⟩ := Hb7.out.cells3
    have b7f0 := Hb7.out.free 0
    have b7f1 := Hb7.out.free 1
    have b7f2 := Hb7.out.free 2
    obtain ⟨b90, b91, b92⟩ := Hb9.out.cells3
    have b9f0 := Hb9.out.free 0
    have b9f1 := Hb9.out.free 1
    have b9f2 := Hb9.out.free 2
    obtain ⟨W5, hW5⟩ : ∃ W, ((w3.setCell ⟨w1.heap.size, 0, none⟩ (.int .i64 fn)).setCell ⟨w1.heap.size, 1, none⟩ (.string ⟨ft.toArray⟩)).setCell ⟨w1.heap.size, 2, none⟩ (.bool fg) = W := ⟨_, rfl⟩
    have Hbl := Lib.hid (show CBlk 24 W5 (w.heap.size) [.int .i64 ln, .string ⟨lt.toArray⟩, .bool lg] by rw [← hW5]; exact ((Hbl.out.other ⟨w1.heap.size, 0, none⟩ (by simp; omega) _).other ⟨w1.heap.size, 1, none⟩ (by simp; omega) _).other ⟨w1.heap.size, 2, none⟩ (by simp; omega) _)
    have Hb7 := Lib.hid (show CBlk 24 W5 (w1.heap.size) [.int .i64 fn, .string ⟨ft.toArray⟩, .bool fg] by rw [← hW5]; exact Hb7.out.store3 rfl _ _ _)
    have Hb9 := Lib.hid (show CBlk 24 W5 (w2.heap.size) [.int .i64 nn, .string ⟨nt.toArray⟩, .bool ng] by rw [← hW5]; exact ((Hb9.out.other ⟨w1.heap.size, 0, none⟩ (by simp; omega) _).other ⟨w1.heap.size, 1, none⟩ (by simp; omega) _).other ⟨w1.heap.size, 2, none⟩ (by simp; omega) _)
    have HBW := Lib.hid (show Below w.heap.size w W5 by rw [← hW5]; exact below_store3 HBW.out (by omega) _ _ _)
    have HV1 := Lib.hid (show LnsN wb.heap.size W5 (.slice p1 FL.length k1) FL by rw [← hW5]; exact ((HV1.out.set (a := ⟨w1.heap.size, 0, none⟩) (by simp; omega) _).set (a := ⟨w1.heap.size, 1, none⟩) (by simp; omega) _).set (a := ⟨w1.heap.size, 2, none⟩) (by simp; omega) _)
    have HW := Lib.hid hW5
    clear hW5
    go_upto_region 8 with fail
    rw [HW.out]
    clear HW
    obtain ⟨bl0, bl1, bl2⟩ := Hbl.out.cells3
    obtain ⟨b70, b71, b72⟩ := Hb7.out.cells3
    have b7f0 := Hb7.out.free 0
    have b7f1 := Hb7.out.free 1
    have b7f2 := Hb7.out.free 2
    obtain ⟨b90, b91, b92⟩ := Hb9.out.cells3
    have b9f0 := Hb9.out.free 0
    have b9f1 := Hb9.out.free 1
    have b9f2 := Hb9.out.free 2
    go_wp2_with fail
    have z5 := Hb9.out.lt
    refine (refFeed_any ⟨ln, lt, lg⟩ c (by dsimp only; omega) (by omega) _).mono ?_
    rintro e w4 ⟨hpost, hb⟩
    obtain ⟨v2, rfl, hv2⟩ := hpost.res
    rw [HF.out] at hv2 ⊢
    unfold spV
    dsimp only at hv2 ⊢
    have Hbl := Lib.hid (Hbl.out.below hb Hbl.out.lt)
    have Hb7 := Lib.hid (Hb7.out.below hb Hb7.out.lt)
    have Hb9 := Lib.hid (Hb9.out.below hb Hb9.out.lt)
    have HBW := Lib.hid (HBW.out.trans (hb.mono HBW.out.size))
    have HV1 := Lib.hid (HV1.out.below hb (Nat.le_refl _))
    clear hb
    obtain ⟨p2, k2, rfl, -⟩ := id hv2
    have HV2 := Lib.hid hv2
    clear hv2 hpost
    obtain ⟨bl0, bl1, bl2⟩ := Hbl.out.cells3
    obtain ⟨b70, b71, b72⟩ := Hb7.out.cells3
    have b7f0 := Hb7.out.free 0
    have b7f1 := Hb7.out.free 1
    have b7f2 := Hb7.out.free 2
    obtain ⟨b90, b91, b92⟩ := Hb9.out.cells3
    have b9f0 := Hb9.out.free 0
    have b9f1 := Hb9.out.free 1
    have b9f2 := Hb9.out.free 2
    obtain ⟨W6, hW6⟩ : ∃ W, ((w4.setCell ⟨w2.heap.size, 0, none⟩ (.int .i64 fn)).setCell ⟨w2.heap.size, 1, none⟩ (.string ⟨ft.toArray⟩)).setCell ⟨w2.heap.size, 2, none⟩ (.bool fg) = W := ⟨_, rfl⟩
    have Hbl := Lib.hid (show CBlk 24 W6 (w.heap.size) [.int .i64 ln, .string ⟨lt.toArray⟩, .bool lg] by rw [← hW6]; exact ((Hbl.out.other ⟨w2.heap.size, 0, none⟩ (by simp; omega) _).other ⟨w2.heap.size, 1, none⟩ (by simp; omega) _).other ⟨w2.heap.size, 2, none⟩ (by simp; omega) _)
    have Hb7 := Lib.hid (show CBlk 24 W6 (w1.heap.size) [.int .i64 fn, .string ⟨ft.toArray⟩, .bool fg] by rw [← hW6]; exact ((Hb7.out.other ⟨w2.heap.size, 0, none⟩ (by simp; omega) _).other ⟨w2.heap.size, 1, none⟩ (by simp; omega) _).other ⟨w2.heap.size, 2, none⟩ (by simp; omega) _)
    have Hb9 := Lib.hid (show CBlk 24 W6 (w2.heap.size) [.int .i64 fn, .string ⟨ft.toArray⟩, .bool fg] by rw [← hW6]; exact Hb9.out.store3 rfl _ _ _)
    have HBW := Lib.hid (show Below w.heap.size w W6 by rw [← hW6]; exact below_store3 HBW.out (by omega) _ _ _)
    have HV1 := Lib.hid (show LnsN wb.heap.size W6 (.slice p1 FL.length k1) FL by rw [← hW6]; exact ((HV1.out.set (a := ⟨w2.heap.size, 0, none⟩) (by simp; omega) _).set (a := ⟨w2.heap.size, 1, none⟩) (by simp; omega) _).set (a := ⟨w2.heap.size, 2, none⟩) (by simp; omega) _)
    have HV2 := Lib.hid (show LnsN W5.heap.size W6 (.slice p2 FL.length k2) FL by rw [← hW6]; exact ((HV2.out.set (a := ⟨w2.heap.size, 0, none⟩) (by simp; omega) _).set (a := ⟨w2.heap.size, 1, none⟩) (by simp; omega) _).set (a := ⟨w2.heap.size, 2, none⟩) (by simp; omega) _)
    have HW := Lib.hid hW6
    clear hW6
    go_upto_region 9 with fail
    rw [HW.out]
    clear HW
    obtain ⟨bl0, bl1, bl2⟩ := Hbl.out.cells3
    obtain ⟨b70, b71, b72⟩ := Hb7.out.cells3
    have b7f0 := Hb7.out.free 0
    have b7f1 := Hb7.out.free 1
    have b7f2 := Hb7.out.free 2
    obtain ⟨b90, b91, b92⟩ := Hb9.out.cells3
    have b9f0 := Hb9.out.free 0
    have b9f1 := Hb9.out.free 1
    have b9f2 := Hb9.out.free 2
    go_wp2_with fail
    refine (sameLines_any FL (by have := HFL.out; omega) _ _ _ HV1.out.at' HV2.out.at').mono ?_
    rintro e w5 ⟨rfl, hb⟩
    have Hbl := Lib.hid (Hbl.out.below hb Hbl.out.lt)
    have Hb7 := Lib.hid (Hb7.out.below hb Hb7.out.lt)
    have Hb9 := Lib.hid (Hb9.out.below hb Hb9.out.lt)
    have HBW := Lib.hid (HBW.out.trans (hb.mono HBW.out.size))
    clear hb
    clear HV1 HV2
    obtain ⟨bl0, bl1, bl2⟩ := Hbl.out.cells3
    obtain ⟨b70, b71, b72⟩ := Hb7.out.cells3
    have b7f0 := Hb7.out.free 0
    have b7f1 := Hb7.out.free 1
    have b7f2 := Hb7.out.free 2
    obtain ⟨b90, b91, b92⟩ := Hb9.out.cells3
    have b9f0 := Hb9.out.free 0
    have b9f1 := Hb9.out.free 1
    have b9f2 := Hb9.out.free 2
    go_wp2_with fail
    refine (lone_any ⟨ln, lt, lg⟩ c (by dsimp only; omega) (by omega) _).mono ?_
    rintro e w6 ⟨rfl, hb⟩
    rw [HO.out]
    have Hbl := Lib.hid (Hbl.out.below hb Hbl.out.lt)
    have Hb7 := Lib.hid (Hb7.out.below hb Hb7.out.lt)
    have Hb9 := Lib.hid (Hb9.out.below hb Hb9.out.lt)
    have HBW := Lib.hid (HBW.out.trans (hb.mono HBW.out.size))
    clear hb
    have z6 : w2.heap.size < w6.heap.size := Hb9.out.lt
    obtain ⟨bl0, bl1, bl2⟩ := Hbl.out.cells3
    obtain ⟨b70, b71, b72⟩ := Hb7.out.cells3
    have b7f0 := Hb7.out.free 0
    have b7f1 := Hb7.out.free 1
    have b7f2 := Hb7.out.free 2
    obtain ⟨b90, b91, b92⟩ := Hb9.out.cells3
    have b9f0 := Hb9.out.free 0
    have b9f1 := Hb9.out.free 1
    have b9f2 := Hb9.out.free 2
    have z8 := HBW.out.size
    obtain ⟨Wa, hWa⟩ : ∃ W, w6.alloc (.cells #[.string ⟨#[]⟩, .bool false] 27) = W := ⟨_, rfl⟩
    have Hbl := Lib.hid (show CBlk 24 Wa (w.heap.size) [.int .i64 ln, .string ⟨lt.toArray⟩, .bool lg] by rw [← hWa]; exact Hbl.out.alloc _)
    have Hb7 := Lib.hid (show CBlk 24 Wa (w1.heap.size) [.int .i64 fn, .string ⟨ft.toArray⟩, .bool fg] by rw [← hWa]; exact Hb7.out.alloc _)
    have Hb9 := Lib.hid (show CBlk 24 Wa (w2.heap.size) [.int .i64 fn, .string ⟨ft.toArray⟩, .bool fg] by rw [← hWa]; exact Hb9.out.alloc _)
    have Hbp := Lib.hid (show CBlk 27 Wa w6.heap.size [.string ⟨#[]⟩, .bool false] by rw [← hWa]; exact CBlk.new _ _ _)
    have HBW := Lib.hid (show Below w.heap.size w Wa by rw [← hWa]; exact HBW.out.alloc HBW.out.size _)
    obtain ⟨bl0, bl1, bl2⟩ := Hbl.out.cells3
    obtain ⟨b70, b71, b72⟩ := Hb7.out.cells3
    have b7f0 := Hb7.out.free 0
    have b7f1 := Hb7.out.free 1
    have b7f2 := Hb7.out.free 2
    obtain ⟨b90, b91, b92⟩ := Hb9.out.cells3
    have b9f0 := Hb9.out.free 0
    have b9f1 := Hb9.out.free 1
    have b9f2 := Hb9.out.free 2
    obtain ⟨bp0, bp1⟩ := Hbp.out.cells2
    have bpf0 := Hbp.out.free 0
    have bpf1 := Hbp.out.free 1
    obtain ⟨W7, hW7⟩ : ∃ W, ((((Wa.setCell ⟨w1.heap.size, 0, none⟩ (.int .i64 on)).setCell ⟨w1.heap.size, 1, none⟩ (.string ⟨ot.toArray⟩)).setCell ⟨w1.heap.size, 2, none⟩ (.bool og)).setCell ⟨w6.heap.size, 0, none⟩ (.string ⟨xt.toArray⟩)).setCell ⟨w6.heap.size, 1, none⟩ (.bool xg) = W := ⟨_, rfl⟩
    have Kbl := Lib.hid (show CBlk 24 W7 (w.heap.size) [.int .i64 ln, .string ⟨lt.toArray⟩, .bool lg] by rw [← hW7]; exact ((((Hbl.out.other ⟨w1.heap.size, 0, none⟩ (by simp; omega) _).other ⟨w1.heap.size, 1, none⟩ (by simp; omega) _).other ⟨w1.heap.size, 2, none⟩ (by simp; omega) _).other ⟨w6.heap.size, 0, none⟩ (by simp; omega) _).other ⟨w6.heap.size, 1, none⟩ (by simp; omega) _)
    have Kb7 := Lib.hid (show CBlk 24 W7 (w1.heap.size) [.int .i64 on, .string ⟨ot.toArray⟩, .bool og] by rw [← hW7]; exact ((Hb7.out.store3 rfl _ _ _).other ⟨w6.heap.size, 0, none⟩ (by simp; omega) _).other ⟨w6.heap.size, 1, none⟩ (by simp; omega) _)
    have Kb9 := Lib.hid (show CBlk 24 W7 (w2.heap.size) [.int .i64 fn, .string ⟨ft.toArray⟩, .bool fg] by rw [← hW7]; exact ((((Hb9.out.other ⟨w1.heap.size, 0, none⟩ (by simp; omega) _).other ⟨w1.heap.size, 1, none⟩ (by simp; omega) _).other ⟨w1.heap.size, 2, none⟩ (by simp; omega) _).other ⟨w6.heap.size, 0, none⟩ (by simp; omega) _).other ⟨w6.heap.size, 1, none⟩ (by simp; omega) _)
    have Kbp := Lib.hid (show CBlk 27 W7 (w6.heap.size) [.string ⟨xt.toArray⟩, .bool xg] by rw [← hW7]; exact (((Hbp.out.other ⟨w1.heap.size, 0, none⟩ (by simp; omega) _).other ⟨w1.heap.size, 1, none⟩ (by simp; omega) _).other ⟨w1.heap.size, 2, none⟩ (by simp; omega) _).store2 rfl _ _)
    have HBW := Lib.hid (show Below w.heap.size w W7 by rw [← hW7]; exact below_store2 (below_store3 HBW.out (by omega) _ _ _) (by omega) _ _)
    have HW := Lib.hid hW7
    clear hW7
    go_upto_region 12 with fail
    rw [HW.out]
    clear HW hWa
    have Hbl := Kbl
    have Hb7 := Kb7
    have Hb9 := Kb9
    have Hbp := Kbp
    obtain ⟨bl0, bl1, bl2⟩ := Hbl.out.cells3
    obtain ⟨b70, b71, b72⟩ := Hb7.out.cells3
    have b7f0 := Hb7.out.free 0
    have b7f1 := Hb7.out.free 1
    have b7f2 := Hb7.out.free 2
    obtain ⟨b90, b91, b92⟩ := Hb9.out.cells3
    have b9f0 := Hb9.out.free 0
    have b9f1 := Hb9.out.free 1
    have b9f2 := Hb9.out.free 2
    obtain ⟨bp0, bp1⟩ := Hbp.out.cells2
    have bpf0 := Hbp.out.free 0
    have bpf1 := Hbp.out.free 1
    go_wp2_with fail
    refine (refOne7_any ⟨ln, lt, lg⟩ c (by dsimp only; omega) (by omega) _).mono ?_
    rintro e w7 ⟨rfl, hb⟩
    rw [HO.out]
    have Hbl := Lib.hid (Hbl.out.below hb Hbl.out.lt)
    have Hb7 := Lib.hid (Hb7.out.below hb Hb7.out.lt)
    have Hb9 := Lib.hid (Hb9.out.below hb Hb9.out.lt)
    have Hbp := Lib.hid (Hbp.out.below hb Hbp.out.lt)
    have HBW := Lib.hid (HBW.out.trans (hb.mono HBW.out.size))
    clear hb
    have z10 : w2.heap.size < w7.heap.size := Hb9.out.lt
    have z11 : w6.heap.size < w7.heap.size := Hbp.out.lt
    obtain ⟨bl0, bl1, bl2⟩ := Hbl.out.cells3
    obtain ⟨b70, b71, b72⟩ := Hb7.out.cells3
    have b7f0 := Hb7.out.free 0
    have b7f1 := Hb7.out.free 1
    have b7f2 := Hb7.out.free 2
    obtain ⟨b90, b91, b92⟩ := Hb9.out.cells3
    have b9f0 := Hb9.out.free 0
    have b9f1 := Hb9.out.free 1
    have b9f2 := Hb9.out.free 2
    obtain ⟨bp0, bp1⟩ := Hbp.out.cells2
    have bpf0 := Hbp.out.free 0
    have bpf1 := Hbp.out.free 1
    obtain ⟨Wb, hWb⟩ : ∃ W, w7.alloc (.cells #[.string ⟨#[]⟩, .bool false] 27) = W := ⟨_, rfl⟩
    have Hbl := Lib.hid (show CBlk 24 Wb (w.heap.size) [.int .i64 ln, .string ⟨lt.toArray⟩, .bool lg] by rw [← hWb]; exact Hbl.out.alloc _)
    have Hb7 := Lib.hid (show CBlk 24 Wb (w1.heap.size) [.int .i64 on, .string ⟨ot.toArray⟩, .bool og] by rw [← hWb]; exact Hb7.out.alloc _)
    have Hb9 := Lib.hid (show CBlk 24 Wb (w2.heap.size) [.int .i64 fn, .string ⟨ft.toArray⟩, .bool fg] by rw [← hWb]; exact Hb9.out.alloc _)
    have Hbp := Lib.hid (show CBlk 27 Wb (w6.heap.size) [.string ⟨xt.toArray⟩, .bool xg] by rw [← hWb]; exact Hbp.out.alloc _)
    have Hbq := Lib.hid (show CBlk 27 Wb w7.heap.size [.string ⟨#[]⟩, .bool false] by rw [← hWb]; exact CBlk.new _ _ _)
    have HBW := Lib.hid (show Below w.heap.size w Wb by rw [← hWb]; exact HBW.out.alloc HBW.out.size _)
    obtain ⟨bl0, bl1, bl2⟩ := Hbl.out.cells3
    obtain ⟨b70, b71, b72⟩ := Hb7.out.cells3
    have b7f0 := Hb7.out.free 0
    have b7f1 := Hb7.out.free 1
    have b7f2 := Hb7.out.free 2
    obtain ⟨b90, b91, b92⟩ := Hb9.out.cells3
    have b9f0 := Hb9.out.free 0
    have b9f1 := Hb9.out.free 1
    have b9f2 := Hb9.out.free 2
    obtain ⟨bp0, bp1⟩ := Hbp.out.cells2
    have bpf0 := Hbp.out.free 0
    have bpf1 := Hbp.out.free 1
    obtain ⟨bq0, bq1⟩ := Hbq.out.cells2
    have bqf0 := Hbq.out.free 0
    have bqf1 := Hbq.out.free 1
    obtain ⟨W8, hW8⟩ : ∃ W, ((((Wb.setCell ⟨w2.heap.size, 0, none⟩ (.int .i64 on)).setCell ⟨w2.heap.size, 1, none⟩ (.string ⟨ot.toArray⟩)).setCell ⟨w2.heap.size, 2, none⟩ (.bool og)).setCell ⟨w7.heap.size, 0, none⟩ (.string ⟨xt.toArray⟩)).setCell ⟨w7.heap.size, 1, none⟩ (.bool xg) = W := ⟨_, rfl⟩
    have Kbl := Lib.hid (show CBlk 24 W8 (w.heap.size) [.int .i64 ln, .string ⟨lt.toArray⟩, .bool lg] by rw [← hW8]; exact ((((Hbl.out.other ⟨w2.heap.size, 0, none⟩ (by simp; omega) _).other ⟨w2.heap.size, 1, none⟩ (by simp; omega) _).other ⟨w2.heap.size, 2, none⟩ (by simp; omega) _).other ⟨w7.heap.size, 0, none⟩ (by simp; omega) _).other ⟨w7.heap.size, 1, none⟩ (by simp; omega) _)
    have Kb7 := Lib.hid (show CBlk 24 W8 (w1.heap.size) [.int .i64 on, .string ⟨ot.toArray⟩, .bool og] by rw [← hW8]; exact ((((Hb7.out.other ⟨w2.heap.size, 0, none⟩ (by simp; omega) _).other ⟨w2.heap.size, 1, none⟩ (by simp; omega) _).other ⟨w2.heap.size, 2, none⟩ (by simp; omega) _).other ⟨w7.heap.size, 0, none⟩ (by simp; omega) _).other ⟨w7.heap.size, 1, none⟩ (by simp; omega) _)
    have Kb9 := Lib.hid (show CBlk 24 W8 (w2.heap.size) [.int .i64 on, .string ⟨ot.toArray⟩, .bool og] by rw [← hW8]; exact ((Hb9.out.store3 rfl _ _ _).other ⟨w7.heap.size, 0, none⟩ (by simp; omega) _).other ⟨w7.heap.size, 1, none⟩ (by simp; omega) _)
    have Kbp := Lib.hid (show CBlk 27 W8 (w6.heap.size) [.string ⟨xt.toArray⟩, .bool xg] by rw [← hW8]; exact ((((Hbp.out.other ⟨w2.heap.size, 0, none⟩ (by simp; omega) _).other ⟨w2.heap.size, 1, none⟩ (by simp; omega) _).other ⟨w2.heap.size, 2, none⟩ (by simp; omega) _).other ⟨w7.heap.size, 0, none⟩ (by simp; omega) _).other ⟨w7.heap.size, 1, none⟩ (by simp; omega) _)
    have Kbq := Lib.hid (show CBlk 27 W8 (w7.heap.size) [.string ⟨xt.toArray⟩, .bool xg] by rw [← hW8]; exact (((Hbq.out.other ⟨w2.heap.size, 0, none⟩ (by simp; omega) _).other ⟨w2.heap.size, 1, none⟩ (by simp; omega) _).other ⟨w2.heap.size, 2, none⟩ (by simp; omega) _).store2 rfl _ _)
    have HBW := Lib.hid (show Below w.heap.size w W8 by rw [← hW8]; exact below_store2 (below_store3 HBW.out (by omega) _ _ _) (by omega) _ _)
    have HW := Lib.hid hW8
    clear hW8
    go_upto_region 13 with fail
    rw [HW.out]
    clear HW hWb
    have Hbl := Kbl
    have Hb7 := Kb7
    have Hb9 := Kb9
    have Hbp := Kbp
    have Hbq := Kbq
    obtain ⟨bl0, bl1, bl2⟩ := Hbl.out.cells3
    obtain ⟨b70, b71, b72⟩ := Hb7.out.cells3
    have b7f0 := Hb7.out.free 0
    have b7f1 := Hb7.out.free 1
    have b7f2 := Hb7.out.free 2
    obtain ⟨b90, b91, b92⟩ := Hb9.out.cells3
    have b9f0 := Hb9.out.free 0
    have b9f1 := Hb9.out.free 1
    have b9f2 := Hb9.out.free 2
    obtain ⟨bp0, bp1⟩ := Hbp.out.cells2
    have bpf0 := Hbp.out.free 0
    have bpf1 := Hbp.out.free 1
    obtain ⟨bq0, bq1⟩ := Hbq.out.cells2
    have bqf0 := Hbq.out.free 0
    have bqf1 := Hbq.out.free 1
    go_wp2_with fail
    refine (lrest_any ⟨ln, lt, lg⟩ (by dsimp only; omega) _).mono ?_
    rintro e w8 ⟨rfl, hb⟩
    rw [HS.out]
    have Hbl := Lib.hid (Hbl.out.below hb Hbl.out.lt)
    have Hb7 := Lib.hid (Hb7.out.below hb Hb7.out.lt)
    have Hb9 := Lib.hid (Hb9.out.below hb Hb9.out.lt)
    have Hbp := Lib.hid (Hbp.out.below hb Hbp.out.lt)
    have Hbq := Lib.hid (Hbq.out.below hb Hbq.out.lt)
    have HBW := Lib.hid (HBW.out.trans (hb.mono HBW.out.size))
    clear hb
    obtain ⟨bl0, bl1, bl2⟩ := Hbl.out.cells3
    obtain ⟨b70, b71, b72⟩ := Hb7.out.cells3
    have b7f0 := Hb7.out.free 0
    have b7f1 := Hb7.out.free 1
    have b7f2 := Hb7.out.free 2
    obtain ⟨b90, b91, b92⟩ := Hb9.out.cells3
    have b9f0 := Hb9.out.free 0
    have b9f1 := Hb9.out.free 1
    have b9f2 := Hb9.out.free 2
    obtain ⟨bp0, bp1⟩ := Hbp.out.cells2
    have bpf0 := Hbp.out.free 0
    have bpf1 := Hbp.out.free 1
    obtain ⟨bq0, bq1⟩ := Hbq.out.cells2
    have bqf0 := Hbq.out.free 0
    have bqf1 := Hbq.out.free 1
    go_wp2_with fail
    refine (refRest7_any ⟨ln, lt, lg⟩ (by dsimp only; omega) _).mono ?_
    rintro e w9 ⟨rfl, hb⟩
    rw [HS.out]
    have Hbl := Lib.hid (Hbl.out.below hb Hbl.out.lt)
    have Hb7 := Lib.hid (Hb7.out.below hb Hb7.out.lt)
    have Hb9 := Lib.hid (Hb9.out.below hb Hb9.out.lt)
    have Hbp := Lib.hid (Hbp.out.below hb Hbp.out.lt)
    have Hbq := Lib.hid (Hbq.out.below hb Hbq.out.lt)
    have HBW := Lib.hid (HBW.out.trans (hb.mono HBW.out.size))
    clear hb
    go_wp2_with fail
    refine (lawake_any _).mono ?_
    rintro e w10 ⟨rfl, hb⟩
    have hB := HBW.out.trans (hb.mono HBW.out.size)
    clear hb
    go_wp2_with fail
    go_ret
    exact ⟨rfl, hB⟩
end Go.Proofs.Ytfagjhadfonhdaa
