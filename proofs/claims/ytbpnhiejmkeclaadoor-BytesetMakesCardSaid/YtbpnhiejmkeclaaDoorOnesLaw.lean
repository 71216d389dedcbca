/-
  The law BytesetOnes returns true, for every set, every byte and every number. The table of math/bits must lie in its variable.
-/
import Derived.Test.YtbpnhiejmkeclaaDoorHeld
import Derived.Test.YtbpnhiejmkeclaaDoorRefList
import Derived.Test.YtbpnhiejmkeclaaDoorAwake
import Derived.IntWalk
namespace Go.Proofs.YtbpnhiejmkeclaaDoor
open Go.RowKit
attribute [local go_sem] eq_sets w_0 w_1 w_2 w_3
section
variable {P : Program} {ops : Array Oper} {Q : Exit → Act → World → Prop} {md : Region.Mode} {S S' : World → Prop}
theorem wpAnyH_narrow (h : ∀ w, S' w → S w) : ∀ (fuel : Nat) (listed : Array Bool) (a : Act) (w : World), wpAnyH P md ops Q S' fuel listed a w → wpAnyH P md ops Q S fuel listed a w
  | 0, _, _, _, H => H
  | fuel + 1, _, _, _, H => ⟨H.1, fun i hi => wpOp_mono (fun a' w' h' => ⟨h _ h'.1, wpAnyH_narrow h fuel _ a' w' h'.2⟩) (H.2 i hi)⟩
end
theorem held1 {N : Nat} {W wx : World} {B : Nat} {a b c d : BitVec 64} (hN : W.heap.size = N) (hB : Blk W B ⟨a, b, c, d⟩) (lB : B < W.heap.size) (hb : Below N W wx) :
    Below N W wx ∧ wx.cell? ⟨B, 0, none⟩ = some (.int .u64 (a.toNat : Int)) ∧ wx.cell? ⟨B, 1, none⟩ = some (.int .u64 (b.toNat : Int)) ∧ wx.cell? ⟨B, 2, none⟩ = some (.int .u64 (c.toNat : Int)) ∧ wx.cell? ⟨B, 3, none⟩ = some (.int .u64 (d.toNat : Int)) := by
  have cB := (hB.below hb (hN ▸ lB)).cells
  exact ⟨hb, cB.1, cB.2.1, cB.2.2.1, cB.2.2.2⟩
theorem owned_string8 {W : World} {base : Nat} {v : Value} {L : List Nat} {T : List UInt8} (hL : ∀ x ∈ L, x < 256) (hT : L.map UInt8.ofNat = T) (h : W.ownsRow base 5 1 v L.length (L.map enc8)) : (convert 31 9 v).run Tryd.prog W = .ok (.string ⟨T.toArray⟩) W := by
  have e : L.map enc8 = L.map encB := List.map_congr_left fun x hx => by
    have := hL x hx
    unfold enc8 encB
    congr 1
    omega
  rw [e] at h
  rw [← hT]
  exact owned_string h
theorem tabAt {N : Nat} {W wx : World} (hN : W.heap.size = N) (hT : Tab W) (h0 : 0 < W.heap.size) (hb : Below N W wx) : Tab wx := hT.below hb (hN ▸ h0)
theorem tabLt {N : Nat} {W wx : World} (h0 : 0 < W.heap.size) (hb : Below N W wx) : 0 < wx.heap.size := Nat.lt_of_lt_of_le h0 hb.size
set_option maxHeartbeats 4000000 in
theorem ones_law (a b c d : BitVec 64) (n : Nat) (hn : n < 256) (m : Int) (hm : m ≤ 9223372036854775807) (w : World) (hT : Tab w) (h0w : 0 < w.heap.size) :
    Calls Tryd.prog 3 #[.agg #[.int .u64 a.toNat, .int .u64 b.toNat, .int .u64 c.toNat, .int .u64 d.toNat], .int .u8 (n : Int), .int .i64 m] w fun e w' => e = .returned (.bool true) ∧ Below w.heap.size w w' := by
  go_enter Tryd.func3, Tryd.ntmps3
  go_upto_region 1 with fail
  have b1 := Blk.new w ⟨a, b, c, d⟩
  have hB : Below w.heap.size w (w.alloc (.cells #[.int .u64 a.toNat, .int .u64 b.toNat, .int .u64 c.toNat, .int .u64 d.toNat] 24)) := by go_grown
  obtain ⟨w1, hw1⟩ : ∃ W, w.alloc (.cells #[.int .u64 a.toNat, .int .u64 b.toNat, .int .u64 c.toNat, .int .u64 d.toNat] 24) = W := ⟨_, rfl⟩
  rw [hw1] at b1 hB ⊢
  clear hw1
  have hT1 := hT.below hB h0w
  have h01 := Nat.lt_of_lt_of_le h0w hB.size
  have l1 := b1.lt
  obtain ⟨N, hN⟩ : ∃ N, Hid (w1.heap.size = N) := ⟨_, Lib.hid rfl⟩
  obtain ⟨q, hq⟩ : ∃ q, Hid ((WSet.mk a b c d).has n = q) := ⟨_, Lib.hid rfl⟩
  obtain ⟨n0, n1, n2, n3, hnot⟩ : ∃ n0 n1 n2 n3, Hid ((WSet.mk a b c d).not = ⟨n0, n1, n2, n3⟩) := ⟨_, _, _, _, Lib.hid rfl⟩
  obtain ⟨f0, f1, f2, f3, hf⟩ : ∃ n0 n1 n2 n3, Hid ((WSet.mk a b c d).fold = ⟨n0, n1, n2, n3⟩) := ⟨_, _, _, _, Lib.hid rfl⟩
  obtain ⟨k, hk⟩ : ∃ k, Hid (countOf ⟨a, b, c, d⟩ = k) := ⟨_, Lib.hid rfl⟩
  go_cut [38] (fun p wx => p = .bool false ∧ Below w1.heap.size w1 wx)
  case first =>
    go_region_held3 (fun wx => Below N w1 wx ∧ wx.cell? ⟨w.heap.size, 0, none⟩ = some (.int .u64 (a.toNat : Int)) ∧ wx.cell? ⟨w.heap.size, 1, none⟩ = some (.int .u64 (b.toNat : Int)) ∧ wx.cell? ⟨w.heap.size, 2, none⟩ = some (.int .u64 (c.toNat : Int)) ∧ wx.cell? ⟨w.heap.size, 3, none⟩ = some (.int .u64 (d.toNat : Int)))
      ((go_split_ands; refine held1 hN.out b1 l1 ?_; have hN := hN.out; repeat' (first | (with_reducible assumption) | (with_reducible exact Below.refl _ _) | (with_reducible refine Below.drew ?_) | (with_reducible refine Below.allocS hN ?_) | (with_reducible refine Below.setCell ?_ ?_ _; rotate_left; ((try dsimp only); omega)) | (refine Below.transS (wx := ?_) hN ?_ ?_; rotate_left 2; assumption))))
      (first
        | (go_at_call 10; refine (has_any a b c d (n : Int) (by omega) (by omega) _).mono ?_; rintro e w' ⟨rfl, hb⟩; rw [Int.toNat_natCast, hq.out])
        | (go_at_call 11; refine (refHas_any a b c d n hn _).mono ?_; rintro e w' ⟨rfl, hb⟩; rw [hq.out])
        | (go_at_call 12; refine (not_any a b c d _).mono ?_; rintro e w' ⟨rfl, hb⟩; rw [hnot.out])
        | (go_at_call 13; refine (refNot_any a b c d _).mono ?_; rintro e w' ⟨rfl, hb⟩; rw [hnot.out])
        | (go_at_call 14; refine (fold_any a b c d _).mono ?_; rintro e w' ⟨rfl, hb⟩; rw [hf.out])
        | (go_at_call 15; refine (refFold_any a b c d _).mono ?_; rintro e w' ⟨rfl, hb⟩; rw [hf.out])
        | (go_at_call 16; refine (count_any a b c d _).mono ?_; rintro e w' ⟨rfl, hb⟩; rw [hk.out])
        | (go_at_call 17; refine (refCount_any a b c d _).mono ?_; rintro e w' ⟨rfl, hb⟩; rw [hk.out]))
    all_goals (go_wp2_with fail; go_meet; refine ⟨rfl, below_eq hN.out ?_⟩; have hN := hN.out; repeat' (first | (with_reducible assumption) | (with_reducible exact Below.refl _ _) | (with_reducible refine Below.drew ?_) | (with_reducible refine Below.allocS hN ?_) | (with_reducible refine Below.setCell ?_ ?_ _; rotate_left; ((try dsimp only); omega)) | (refine Below.transS (wx := ?_) hN ?_ ?_; rotate_left 2; assumption)))
  case rest =>
  obtain ⟨rfl, hc⟩ := hcut
  have b1 := b1.below hc l1
  have hT2 := hT1.below hc h01
  have h02 := Nat.lt_of_lt_of_le h01 hc.size
  have hB := hB.trans (hc.mono hB.size)
  clear hc hN l1 hT1 h01 hq hnot hf hk
  obtain ⟨c0, c1, c2, c3⟩ := b1.cells
  obtain ⟨x, hx⟩ : ∃ x, Hid ((nextOf ⟨a, b, c, d⟩ m.toNat).1 = x) := ⟨_, Lib.hid rfl⟩
  obtain ⟨y, hy⟩ : ∃ x, Hid ((nextOf ⟨a, b, c, d⟩ m.toNat).2 = x) := ⟨_, Lib.hid rfl⟩
  go_wp2_with fail
  refine (next_any a b c d m hm _ hT2 h02).mono ?_
  rintro z w3 ⟨rfl, hb⟩
  rw [hx.out, hy.out]
  have b1 := b1.below hb b1.lt
  have hT3 := hT2.below hb h02
  have h03 := Nat.lt_of_lt_of_le h02 hb.size
  have hB := hB.trans (hb.mono hB.size)
  clear hb hT2 h02 c0 c1 c2 c3
  obtain ⟨c0, c1, c2, c3⟩ := b1.cells
  go_wp2_with fail
  refine (refNext_any a b c d m hm _).mono ?_
  rintro z w4 ⟨rfl, hb⟩
  rw [hx.out, hy.out]
  have b1 := b1.below hb b1.lt
  have hT1 := hT3.below hb h03
  have h01 := Nat.lt_of_lt_of_le h03 hb.size
  have hB := hB.trans (hb.mono hB.size)
  clear hb hT3 h03 c0 c1 c2 c3 hx hy
  obtain ⟨M, hM⟩ : ∃ M, Hid (upto ⟨a, b, c, d⟩ 0 256 = M) := ⟨_, Lib.hid rfl⟩
  have hM2 : Hid (∀ x ∈ M, x < 256) := Lib.hid (fun x hx => upto_mem (by rw [hM.out]; exact hx))
  obtain ⟨T, hTx⟩ : ∃ T, Hid (M.map UInt8.ofNat = T) := ⟨_, Lib.hid rfl⟩
  have l1 := b1.lt
  obtain ⟨N, hN⟩ : ∃ N, Hid (w4.heap.size = N) := ⟨_, Lib.hid rfl⟩
  go_upto_region 5 with fail
  refine wp_region_noPanic ?_
  refine wp_region_held_drew (S := fun wx => Below N w4 wx ∧ wx.cell? ⟨w.heap.size, 0, none⟩ = some (.int .u64 (a.toNat : Int)) ∧ wx.cell? ⟨w.heap.size, 1, none⟩ = some (.int .u64 (b.toNat : Int)) ∧ wx.cell? ⟨w.heap.size, 2, none⟩ = some (.int .u64 (c.toNat : Int)) ∧ wx.cell? ⟨w.heap.size, 3, none⟩ = some (.int .u64 (d.toNat : Int))) (by kernel_rfl) ?_ (fun hHeld => ?_)
  focus ((try dsimp only); ((go_split_ands; refine held1 hN.out b1 l1 ?_; have hN := hN.out; repeat' (first | (with_reducible assumption) | (with_reducible exact Below.refl _ _) | (with_reducible refine Below.drew ?_) | (with_reducible refine Below.allocS hN ?_) | (with_reducible refine Below.setCell ?_ ?_ _; rotate_left; ((try dsimp only); omega)) | (refine Below.transS (wx := ?_) hN ?_ ?_; rotate_left 2; assumption)))))
  try simp only [Act.put, List.setIfInBounds_toArray, List.set_cons_zero, List.set_cons_succ]
  refine wpAnyH_take (i := 0) (oi := { dst := some 51, op := Go.Op.load 24 (Go.Operand.tmp 3), type := 24, pos := "law.go:19", after := #[], guard := none }) (v := ?_) rfl (by kernel_rfl) (by kernel_rfl) (by kernel_rfl) (fun _ _ _ h => h) (Or.inl ⟨by rfl, ?_⟩) (by assumption) ?_
  rotate_left
  focus ((intro w hSw; (try dsimp only at hSw); go_simp) <;> (with_reducible rfl))
  try simp only [Act.put, List.setIfInBounds_toArray, List.set_cons_zero, List.set_cons_succ]
  refine wpAnyH_take (i := 3) (oi := { dst := some 54, op := Go.Op.load 24 (Go.Operand.tmp 3), type := 24, pos := "law.go:19", after := #[], guard := none }) (v := ?_) rfl (by kernel_rfl) (by kernel_rfl) (by kernel_rfl) (fun _ _ _ h => h) (Or.inl ⟨by rfl, ?_⟩) (by assumption) ?_
  rotate_left
  focus ((intro w hSw; (try dsimp only at hSw); go_simp) <;> (with_reducible rfl))
  try simp only [Act.put, List.setIfInBounds_toArray, List.set_cons_zero, List.set_cons_succ]
  refine wpAnyH_ready (rs := [1]) (by kernel_rfl) (by simp) ?_
  refine AllReadyH.cons (o := { dst := some 52, op := Go.Op.call { callee := Go.Callee.value (Go.Operand.func 20), args := #[Go.Operand.tmp 51], argTypes := #[24] }, type := 31, pos := "law.go:19", after := #[{ on := 0, ground := Go.Ground.data }], guard := none }) rfl (fun K hK => ?_) AllReadyH.nil
  go_simp
  (go_at_call 20; refine (list_any a b c d _ (tabAt hN.out hT1 h01 hHeld.1) (tabLt h01 hHeld.1)).mono ?_; rintro e w' ⟨v1, rfl, hrow1, -, hb⟩; rw [hM.out] at hrow1; obtain ⟨g1, hrow1⟩ : ∃ g, w'.ownsRow g 5 1 v1 M.length (M.map enc8) := ⟨_, hrow1⟩)
  first | (go_wp2_with fail) | skip
  refine hK.out _ _ ?_ (fun hNew => ?_)
  focus ((try dsimp only); ((go_split_ands; refine held1 hN.out b1 l1 ?_; have hN := hN.out; repeat' (first | (with_reducible assumption) | (with_reducible exact Below.refl _ _) | (with_reducible refine Below.drew ?_) | (with_reducible refine Below.allocS hN ?_) | (with_reducible refine Below.setCell ?_ ?_ _; rotate_left; ((try dsimp only); omega)) | (refine Below.transS (wx := ?_) hN ?_ ?_; rotate_left 2; assumption)))))
  refine wpAnyH_narrow (S' := fun wx => (fun wx => Below N w4 wx ∧ wx.cell? ⟨w.heap.size, 0, none⟩ = some (.int .u64 (a.toNat : Int)) ∧ wx.cell? ⟨w.heap.size, 1, none⟩ = some (.int .u64 (b.toNat : Int)) ∧ wx.cell? ⟨w.heap.size, 2, none⟩ = some (.int .u64 (c.toNat : Int)) ∧ wx.cell? ⟨w.heap.size, 3, none⟩ = some (.int .u64 (d.toNat : Int))) wx ∧ wx.ownsRow g1 5 1 v1 M.length (M.map enc8)) (fun _ h => h.1) _ _ _ _ ?_
  have hNew : (fun wx => (fun wx => Below N w4 wx ∧ wx.cell? ⟨w.heap.size, 0, none⟩ = some (.int .u64 (a.toNat : Int)) ∧ wx.cell? ⟨w.heap.size, 1, none⟩ = some (.int .u64 (b.toNat : Int)) ∧ wx.cell? ⟨w.heap.size, 2, none⟩ = some (.int .u64 (c.toNat : Int)) ∧ wx.cell? ⟨w.heap.size, 3, none⟩ = some (.int .u64 (d.toNat : Int))) wx ∧ wx.ownsRow g1 5 1 v1 M.length (M.map enc8)) _ := ⟨hNew, hrow1⟩
  clear hK K hHeld
  have hHeld := hNew
  clear hNew
  refine wpAnyH_take (i := 2) (oi := { dst := some 53, op := Go.Op.convert 31 9 (Go.Operand.tmp 52), type := 9, pos := "law.go:19", after := #[{ on := 1, ground := Go.Ground.data }], guard := none }) (v := ?_) rfl (by kernel_rfl) (by kernel_rfl) (by kernel_rfl) (fun _ _ _ h => h) (Or.inl ⟨by rfl, ?_⟩) (by assumption) ?_
  rotate_left
  focus ((intro w hSw; have hcv := owned_string8 hM2.out hTx.out hSw.2; (try dsimp only at hSw); go_simp) <;> (with_reducible rfl))
  try simp only [Act.put, List.setIfInBounds_toArray, List.set_cons_zero, List.set_cons_succ]
  refine wpAnyH_ready (rs := [4]) (by kernel_rfl) (by simp) ?_
  refine AllReadyH.cons (o := { dst := some 55, op := Go.Op.call { callee := Go.Callee.value (Go.Operand.func 21), args := #[Go.Operand.tmp 54], argTypes := #[24] }, type := 31, pos := "law.go:19", after := #[{ on := 3, ground := Go.Ground.data }, { on := 1, ground := Go.Ground.chain }], guard := none }) rfl (fun K hK => ?_) AllReadyH.nil
  go_simp
  (go_at_call 21; refine (refList_any a b c d _).mono ?_; rintro e w' ⟨v2, rfl, hrow2, hb⟩; rw [hM.out] at hrow2; obtain ⟨g2, hrow2⟩ : ∃ g, w'.ownsRow g 5 1 v2 M.length (M.map enc8) := ⟨_, hrow2⟩)
  first | (go_wp2_with fail) | skip
  refine hK.out _ _ ?_ (fun hNew => ?_)
  focus ((try dsimp only); refine ⟨?_, own_below hHeld.2 hb⟩; ((go_split_ands; refine held1 hN.out b1 l1 ?_; have hN := hN.out; repeat' (first | (with_reducible assumption) | (with_reducible exact Below.refl _ _) | (with_reducible refine Below.drew ?_) | (with_reducible refine Below.allocS hN ?_) | (with_reducible refine Below.setCell ?_ ?_ _; rotate_left; ((try dsimp only); omega)) | (refine Below.transS (wx := ?_) hN ?_ ?_; rotate_left 2; assumption)))))
  refine wpAnyH_narrow (S' := fun wx => (fun wx => (fun wx => Below N w4 wx ∧ wx.cell? ⟨w.heap.size, 0, none⟩ = some (.int .u64 (a.toNat : Int)) ∧ wx.cell? ⟨w.heap.size, 1, none⟩ = some (.int .u64 (b.toNat : Int)) ∧ wx.cell? ⟨w.heap.size, 2, none⟩ = some (.int .u64 (c.toNat : Int)) ∧ wx.cell? ⟨w.heap.size, 3, none⟩ = some (.int .u64 (d.toNat : Int))) wx ∧ wx.ownsRow g1 5 1 v1 M.length (M.map enc8)) wx ∧ wx.ownsRow g2 5 1 v2 M.length (M.map enc8)) (fun _ h => h.1) _ _ _ _ ?_
  have hNew : (fun wx => (fun wx => (fun wx => Below N w4 wx ∧ wx.cell? ⟨w.heap.size, 0, none⟩ = some (.int .u64 (a.toNat : Int)) ∧ wx.cell? ⟨w.heap.size, 1, none⟩ = some (.int .u64 (b.toNat : Int)) ∧ wx.cell? ⟨w.heap.size, 2, none⟩ = some (.int .u64 (c.toNat : Int)) ∧ wx.cell? ⟨w.heap.size, 3, none⟩ = some (.int .u64 (d.toNat : Int))) wx ∧ wx.ownsRow g1 5 1 v1 M.length (M.map enc8)) wx ∧ wx.ownsRow g2 5 1 v2 M.length (M.map enc8)) _ := ⟨hNew, hrow2⟩
  clear hK K hHeld
  have hHeld := hNew
  clear hNew
  refine wpAnyH_take (i := 5) (oi := { dst := some 56, op := Go.Op.convert 31 9 (Go.Operand.tmp 55), type := 9, pos := "law.go:19", after := #[{ on := 4, ground := Go.Ground.data }], guard := none }) (v := ?_) rfl (by kernel_rfl) (by kernel_rfl) (by kernel_rfl) (fun _ _ _ h => h) (Or.inl ⟨by rfl, ?_⟩) (by assumption) ?_
  rotate_left
  focus ((intro w hSw; have hcv := owned_string8 hM2.out hTx.out hSw.2; (try dsimp only at hSw); go_simp) <;> (with_reducible rfl))
  try simp only [Act.put, List.setIfInBounds_toArray, List.set_cons_zero, List.set_cons_succ]
  refine wpAnyH_take (i := 6) (oi := { dst := some 57, op := Go.Op.binOp Go.BinOp.eql 9 (Go.Operand.tmp 53) (Go.Operand.tmp 56) 9, type := 4, pos := "law.go:19", after := #[{ on := 2, ground := Go.Ground.data }, { on := 5, ground := Go.Ground.data }], guard := none }) (v := ?_) rfl (by kernel_rfl) (by kernel_rfl) (by kernel_rfl) (fun _ _ _ h => h) (Or.inl ⟨by rfl, ?_⟩) (by assumption) ?_
  rotate_left
  focus ((intro w hSw; (try dsimp only at hSw); go_simp) <;> (with_reducible rfl))
  try simp only [Act.put, List.setIfInBounds_toArray, List.set_cons_zero, List.set_cons_succ]
  refine wpAnyH_take (i := 7) (oi := { dst := some 58, op := Go.Op.move (Go.Operand.tmp 57), type := 4, pos := "law.go:19", after := #[{ on := 6, ground := Go.Ground.data }, { on := 4, ground := Go.Ground.chain }], guard := none }) (v := ?_) rfl (by kernel_rfl) (by kernel_rfl) (by kernel_rfl) (fun _ _ _ h => h) (Or.inl ⟨by rfl, ?_⟩) (by assumption) ?_
  rotate_left
  focus ((intro w hSw; (try dsimp only at hSw); go_simp) <;> (with_reducible rfl))
  try simp only [Act.put, List.setIfInBounds_toArray, List.set_cons_zero, List.set_cons_succ]
  refine wpAnyH_take (i := 8) (oi := { dst := some 59, op := Go.Op.move (Go.Operand.tmp 7), type := 3, pos := "law.go:19", after := #[{ on := 7, ground := Go.Ground.guard }], guard := some (7, true) }) (v := ?_) rfl (by kernel_rfl) (by kernel_rfl) (by kernel_rfl) (fun _ _ _ h => h) (Or.inl ⟨by rfl, ?_⟩) (by assumption) ?_
  rotate_left
  focus ((intro w hSw; (try dsimp only at hSw); go_simp) <;> (with_reducible rfl))
  try simp only [Act.put, List.setIfInBounds_toArray, List.set_cons_zero, List.set_cons_succ]
  refine wpAnyH_take (i := 9) (oi := { dst := some 60, op := Go.Op.move (Go.Operand.tmp 9), type := 3, pos := "law.go:19", after := #[{ on := 7, ground := Go.Ground.guard }], guard := some (7, true) }) (v := ?_) rfl (by kernel_rfl) (by kernel_rfl) (by kernel_rfl) (fun _ _ _ h => h) (Or.inl ⟨by rfl, ?_⟩) (by assumption) ?_
  rotate_left
  focus ((intro w hSw; (try dsimp only at hSw); go_simp) <;> (with_reducible rfl))
  try simp only [Act.put, List.setIfInBounds_toArray, List.set_cons_zero, List.set_cons_succ]
  refine wpAnyH_take (i := 10) (oi := { dst := some 61, op := Go.Op.binOp Go.BinOp.eql 3 (Go.Operand.tmp 59) (Go.Operand.tmp 60) 3, type := 4, pos := "law.go:19", after := #[{ on := 8, ground := Go.Ground.data }, { on := 9, ground := Go.Ground.data }, { on := 7, ground := Go.Ground.guard }], guard := some (7, true) }) (v := ?_) rfl (by kernel_rfl) (by kernel_rfl) (by kernel_rfl) (fun _ _ _ h => h) (Or.inl ⟨by rfl, ?_⟩) (by assumption) ?_
  rotate_left
  focus ((intro w hSw; (try dsimp only at hSw); go_simp) <;> (with_reducible rfl))
  try simp only [Act.put, List.setIfInBounds_toArray, List.set_cons_zero, List.set_cons_succ]
  refine wpAnyH_take (i := 11) (oi := { dst := some 62, op := Go.Op.pick (Go.Operand.tmp 58) (Go.Operand.tmp 61) (Go.Operand.const (Go.Value.bool false)), type := 4, pos := "law.go:19", after := #[{ on := 7, ground := Go.Ground.data }, { on := 10, ground := Go.Ground.data }], guard := none }) (v := ?_) rfl (by kernel_rfl) (by kernel_rfl) (by kernel_rfl) (fun _ _ _ h => h) (Or.inl ⟨by rfl, ?_⟩) (by assumption) ?_
  rotate_left
  focus ((intro w hSw; (try dsimp only at hSw); go_simp) <;> (with_reducible rfl))
  try simp only [Act.put, List.setIfInBounds_toArray, List.set_cons_zero, List.set_cons_succ]
  refine wpAnyH_take (i := 12) (oi := { dst := some 63, op := Go.Op.move (Go.Operand.tmp 62), type := 4, pos := "law.go:19", after := #[{ on := 11, ground := Go.Ground.data }, { on := 7, ground := Go.Ground.chain }], guard := none }) (v := ?_) rfl (by kernel_rfl) (by kernel_rfl) (by kernel_rfl) (fun _ _ _ h => h) (Or.inl ⟨by rfl, ?_⟩) (by assumption) ?_
  rotate_left
  focus ((intro w hSw; (try dsimp only at hSw); go_simp) <;> (with_reducible rfl))
  try simp only [Act.put, List.setIfInBounds_toArray, List.set_cons_zero, List.set_cons_succ]
  refine wpAnyH_take (i := 13) (oi := { dst := some 64, op := Go.Op.move (Go.Operand.tmp 8), type := 28, pos := "law.go:19", after := #[{ on := 12, ground := Go.Ground.guard }], guard := some (12, true) }) (v := ?_) rfl (by kernel_rfl) (by kernel_rfl) (by kernel_rfl) (fun _ _ _ h => h) (Or.inl ⟨by rfl, ?_⟩) (by assumption) ?_
  rotate_left
  focus ((intro w hSw; (try dsimp only at hSw); go_simp) <;> (with_reducible rfl))
  try simp only [Act.put, List.setIfInBounds_toArray, List.set_cons_zero, List.set_cons_succ]
  refine wpAnyH_take (i := 14) (oi := { dst := some 65, op := Go.Op.move (Go.Operand.tmp 10), type := 28, pos := "law.go:19", after := #[{ on := 12, ground := Go.Ground.guard }], guard := some (12, true) }) (v := ?_) rfl (by kernel_rfl) (by kernel_rfl) (by kernel_rfl) (fun _ _ _ h => h) (Or.inl ⟨by rfl, ?_⟩) (by assumption) ?_
  rotate_left
  focus ((intro w hSw; (try dsimp only at hSw); go_simp) <;> (with_reducible rfl))
  try simp only [Act.put, List.setIfInBounds_toArray, List.set_cons_zero, List.set_cons_succ]
  refine wpAnyH_take (i := 15) (oi := { dst := some 66, op := Go.Op.binOp Go.BinOp.eql 28 (Go.Operand.tmp 64) (Go.Operand.tmp 65) 28, type := 4, pos := "law.go:19", after := #[{ on := 13, ground := Go.Ground.data }, { on := 14, ground := Go.Ground.data }, { on := 12, ground := Go.Ground.guard }], guard := some (12, true) }) (v := ?_) rfl (by kernel_rfl) (by kernel_rfl) (by kernel_rfl) (fun _ _ _ h => h) (Or.inl ⟨by rfl, ?_⟩) (by assumption) ?_
  rotate_left
  focus ((intro w hSw; (try dsimp only at hSw); go_simp) <;> (with_reducible rfl))
  try simp only [Act.put, List.setIfInBounds_toArray, List.set_cons_zero, List.set_cons_succ]
  refine wpAnyH_take (i := 16) (oi := { dst := some 67, op := Go.Op.pick (Go.Operand.tmp 63) (Go.Operand.tmp 66) (Go.Operand.const (Go.Value.bool false)), type := 4, pos := "law.go:19", after := #[{ on := 12, ground := Go.Ground.data }, { on := 15, ground := Go.Ground.data }], guard := none }) (v := ?_) rfl (by kernel_rfl) (by kernel_rfl) (by kernel_rfl) (fun _ _ _ h => h) (Or.inl ⟨by rfl, ?_⟩) (by assumption) ?_
  rotate_left
  focus ((intro w hSw; (try dsimp only at hSw); go_simp) <;> (with_reducible rfl))
  try simp only [Act.put, List.setIfInBounds_toArray, List.set_cons_zero, List.set_cons_succ]
  refine wpAnyH_take (i := 17) (oi := { dst := some 68, op := Go.Op.move (Go.Operand.tmp 67), type := 4, pos := "law.go:19", after := #[{ on := 16, ground := Go.Ground.data }, { on := 12, ground := Go.Ground.chain }], guard := none }) (v := ?_) rfl (by kernel_rfl) (by kernel_rfl) (by kernel_rfl) (fun _ _ _ h => h) (Or.inl ⟨by rfl, ?_⟩) (by assumption) ?_
  rotate_left
  focus ((intro w hSw; (try dsimp only at hSw); go_simp) <;> (with_reducible rfl))
  try simp only [Act.put, List.setIfInBounds_toArray, List.set_cons_zero, List.set_cons_succ]
  refine wpAnyH_ready (rs := [18]) (by kernel_rfl) (by simp) ?_
  refine AllReadyH.cons (o := { dst := some 69, op := Go.Op.call { callee := Go.Callee.value (Go.Operand.func 22), args := #[], argTypes := #[] }, type := 4, pos := "law.go:19", after := #[{ on := 17, ground := Go.Ground.chain }, { on := 17, ground := Go.Ground.guard }], guard := some (17, true) }) rfl (fun K hK => ?_) AllReadyH.nil
  go_simp
  (go_at_call 22; refine (awake_any _ (tabAt hN.out hT1 h01 hHeld.1.1.1) (tabLt h01 hHeld.1.1.1)).mono ?_; rintro e w' ⟨rfl, hb⟩)
  first | (go_wp2_with fail) | skip
  refine hK.out _ _ ?_ (fun hNew => ?_)
  focus ((try dsimp only); refine ⟨⟨?_, own_below hHeld.1.2 hb⟩, own_below hHeld.2 hb⟩; ((go_split_ands; refine held1 hN.out b1 l1 ?_; have hN := hN.out; repeat' (first | (with_reducible assumption) | (with_reducible exact Below.refl _ _) | (with_reducible refine Below.drew ?_) | (with_reducible refine Below.allocS hN ?_) | (with_reducible refine Below.setCell ?_ ?_ _; rotate_left; ((try dsimp only); omega)) | (refine Below.transS (wx := ?_) hN ?_ ?_; rotate_left 2; assumption)))))
  clear hK K hHeld
  have hHeld := hNew
  clear hNew
  try simp only [Act.put, List.setIfInBounds_toArray, List.set_cons_zero, List.set_cons_succ]
  refine wpAnyH_take (i := 19) (oi := { dst := some 70, op := Go.Op.pick (Go.Operand.tmp 68) (Go.Operand.tmp 69) (Go.Operand.const (Go.Value.bool false)), type := 4, pos := "law.go:19", after := #[{ on := 17, ground := Go.Ground.data }, { on := 18, ground := Go.Ground.data }], guard := none }) (v := ?_) rfl (by kernel_rfl) (by kernel_rfl) (by kernel_rfl) (fun _ _ _ h => h) (Or.inl ⟨by rfl, ?_⟩) (by assumption) ?_
  rotate_left
  focus ((intro w hSw; (try dsimp only at hSw); go_simp) <;> (with_reducible rfl))
  try simp only [Act.put, List.setIfInBounds_toArray, List.set_cons_zero, List.set_cons_succ]
  refine wpAnyH_take (i := 20) (oi := { dst := some 6, op := Go.Op.assign (Go.Operand.tmp 70), type := 4, pos := "law.go:19", after := #[{ on := 19, ground := Go.Ground.data }, { on := 18, ground := Go.Ground.chain }, { on := 0, ground := Go.Ground.phase }, { on := 1, ground := Go.Ground.phase }, { on := 2, ground := Go.Ground.phase }, { on := 3, ground := Go.Ground.phase }, { on := 4, ground := Go.Ground.phase }, { on := 5, ground := Go.Ground.phase }, { on := 6, ground := Go.Ground.phase }, { on := 7, ground := Go.Ground.phase }, { on := 8, ground := Go.Ground.phase }, { on := 9, ground := Go.Ground.phase }, { on := 10, ground := Go.Ground.phase }, { on := 11, ground := Go.Ground.phase }, { on := 12, ground := Go.Ground.phase }, { on := 13, ground := Go.Ground.phase }, { on := 14, ground := Go.Ground.phase }, { on := 15, ground := Go.Ground.phase }, { on := 16, ground := Go.Ground.phase }, { on := 17, ground := Go.Ground.phase }, { on := 18, ground := Go.Ground.phase }, { on := 19, ground := Go.Ground.phase }], guard := none }) (v := ?_) rfl (by kernel_rfl) (by kernel_rfl) (by kernel_rfl) (fun _ _ _ h => h) (Or.inl ⟨by rfl, ?_⟩) (by assumption) ?_
  rotate_left
  focus ((intro w hSw; (try dsimp only at hSw); go_simp) <;> (with_reducible rfl))
  try simp only [Act.put, List.setIfInBounds_toArray, List.set_cons_zero, List.set_cons_succ]
  refine wpAnyH_done (by kernel_rfl) ?_ _
  refine NoPanic.normal ?_

  go_wp2_with fail
  go_ret
  refine ⟨rfl, hB.trans ((below_eq hN.out hHeld.1.1.1).mono hB.size)⟩
end Go.Proofs.YtbpnhiejmkeclaaDoor
