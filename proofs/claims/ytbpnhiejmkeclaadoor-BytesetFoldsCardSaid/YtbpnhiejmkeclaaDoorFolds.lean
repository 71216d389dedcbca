/-
  The law BytesetFolds returns true, for every two sets and every byte. The table of math/bits must lie in its variable.
-/
import Derived.Test.YtbpnhiejmkeclaaDoorHeld
import Derived.Test.YtbpnhiejmkeclaaDoorFoldFacts
import Derived.IntWalk
namespace Go.Proofs.YtbpnhiejmkeclaaDoor
open Go.RowKit
attribute [local go_sem] eq_sets w_0 w_1 w_2 w_3
/-- What a region that only makes memory keeps: the cells of older sets. -/
theorem held3s {N : Nat} {W wx : World} {B C F : Nat} {a b c d : BitVec 64} {e f g h : BitVec 64} {f0 f1 f2 f3 : BitVec 64} (hN : W.heap.size = N) (hB : Blk W B ⟨a, b, c, d⟩) (hC : Blk W C ⟨e, f, g, h⟩) (hF : Blk W F ⟨f0, f1, f2, f3⟩) (lB : B < W.heap.size) (lC : C < W.heap.size) (lF : F < W.heap.size) (hb : Below N W wx) :
    Below N W wx ∧ wx.cell? ⟨B, 0, none⟩ = some (.int .u64 (a.toNat : Int)) ∧ wx.cell? ⟨B, 1, none⟩ = some (.int .u64 (b.toNat : Int)) ∧ wx.cell? ⟨B, 2, none⟩ = some (.int .u64 (c.toNat : Int)) ∧ wx.cell? ⟨B, 3, none⟩ = some (.int .u64 (d.toNat : Int)) ∧ wx.cell? ⟨C, 0, none⟩ = some (.int .u64 (e.toNat : Int)) ∧ wx.cell? ⟨C, 1, none⟩ = some (.int .u64 (f.toNat : Int)) ∧ wx.cell? ⟨C, 2, none⟩ = some (.int .u64 (g.toNat : Int)) ∧ wx.cell? ⟨C, 3, none⟩ = some (.int .u64 (h.toNat : Int)) ∧ wx.cell? ⟨F, 0, none⟩ = some (.int .u64 (f0.toNat : Int)) ∧ wx.cell? ⟨F, 1, none⟩ = some (.int .u64 (f1.toNat : Int)) ∧ wx.cell? ⟨F, 2, none⟩ = some (.int .u64 (f2.toNat : Int)) ∧ wx.cell? ⟨F, 3, none⟩ = some (.int .u64 (f3.toNat : Int)) := by
  have cB := (hB.below hb (hN ▸ lB)).cells
  have cC := (hC.below hb (hN ▸ lC)).cells
  have cF := (hF.below hb (hN ▸ lF)).cells
  exact ⟨hb, cB.1, cB.2.1, cB.2.2.1, cB.2.2.2, cC.1, cC.2.1, cC.2.2.1, cC.2.2.2, cF.1, cF.2.1, cF.2.2.1, cF.2.2.2⟩
theorem mod_any (n : Int) (hn : n = 0 ∨ n = 32 ∨ n = -32) (w : World) :
    Calls Tryd.prog 40 #[.int .i64 n, .int .i64 32] w fun e w' => e = .returned (.int .i64 0) ∧ Below w.heap.size w w' := by
  rcases hn with rfl | rfl | rfl
  · go_enter Tryd.func40, Tryd.ntmps40
    go_wp2
    go_ret
    exact ⟨rfl, by go_grown⟩
  · go_enter Tryd.func40, Tryd.ntmps40
    go_wp2
    go_ret
    exact ⟨rfl, by go_grown⟩
  · go_enter Tryd.func40, Tryd.ntmps40
    go_wp2
    go_ret
    exact ⟨rfl, by go_grown⟩
def lowN (n : Nat) : Nat := if 97 ≤ n ∧ n ≤ 122 then n - 32 else n
/-- The same letter in the other case. -/
def otherN (n : Nat) : Nat := if 65 ≤ n ∧ n ≤ 90 then n + 32 else lowN n
theorem otherOf (n : Nat) : OtherOf n (otherN n) := by
  unfold otherN lowN OtherOf
  split
  · omega
  · split <;> omega
set_option maxHeartbeats 4000000 in
theorem folds_any (a b c d e f g h : BitVec 64) (n : Nat) (hn : n < 256) (w : World) (hT : Tab w) (h0w : 0 < w.heap.size) :
    Calls Tryd.prog 9 #[.agg #[.int .u64 a.toNat, .int .u64 b.toNat, .int .u64 c.toNat, .int .u64 d.toNat], .agg #[.int .u64 e.toNat, .int .u64 f.toNat, .int .u64 g.toNat, .int .u64 h.toNat], .int .u8 (n : Int)] w fun e w' => e = .returned (.bool true) ∧ Below w.heap.size w w' := by
  go_enter Tryd.func9, Tryd.ntmps9
  go_wp2_with fail
  have b1 := (Blk.new w ⟨a, b, c, d⟩).alloc (.cells #[.int .u64 e.toNat, .int .u64 f.toNat, .int .u64 g.toNat, .int .u64 h.toNat] 24)
  have b2 := Blk.new (w.alloc (.cells #[.int .u64 a.toNat, .int .u64 b.toNat, .int .u64 c.toNat, .int .u64 d.toNat] 24)) ⟨e, f, g, h⟩
  have hB0 : Below w.heap.size w ((w.alloc (.cells #[.int .u64 a.toNat, .int .u64 b.toNat, .int .u64 c.toNat, .int .u64 d.toNat] 24)).alloc (.cells #[.int .u64 e.toNat, .int .u64 f.toNat, .int .u64 g.toNat, .int .u64 h.toNat] 24)) := by go_grown
  rw [World.size_alloc] at b2
  refine (known_any _ ((hT.below hB0 h0w)) (Nat.lt_of_lt_of_le h0w hB0.size)).mono ?_
  rintro x w1 ⟨rfl, hb⟩
  have b1 := b1.below hb b1.lt
  have b2 := b2.below hb b2.lt
  have hB := hB0.trans (hb.mono hB0.size)
  clear hb hB0
  obtain ⟨c0, c1, c2, c3⟩ := b1.cells
  obtain ⟨f0, f1, f2, f3, hf⟩ : ∃ n0 n1 n2 n3, Hid ((WSet.mk a b c d).fold = ⟨n0, n1, n2, n3⟩) := ⟨_, _, _, _, Lib.hid rfl⟩
  go_wp2_with fail
  refine (fold_any _ _ _ _ _).mono ?_
  rintro x w2 ⟨rfl, hb⟩
  rw [hf.out]
  clear c0 c1 c2 c3
  have b1 := b1.below hb b1.lt
  have b2 := b2.below hb b2.lt
  have hB := hB.trans (hb.mono hB.size)
  clear hb
  go_upto_region 4 with fail
  have b1 := b1.alloc (.cells #[.int .u64 f0.toNat, .int .u64 f1.toNat, .int .u64 f2.toNat, .int .u64 f3.toNat] 24)
  have b2 := b2.alloc (.cells #[.int .u64 f0.toNat, .int .u64 f1.toNat, .int .u64 f2.toNat, .int .u64 f3.toNat] 24)
  have bf := Blk.new w2 ⟨f0, f1, f2, f3⟩
  have hB := hB.alloc hB.size (.cells #[.int .u64 f0.toNat, .int .u64 f1.toNat, .int .u64 f2.toNat, .int .u64 f3.toNat] 24)
  obtain ⟨F, hF⟩ : ∃ F, w2.heap.size = F := ⟨_, rfl⟩
  obtain ⟨W, hW⟩ : ∃ W, w2.alloc (.cells #[.int .u64 f0.toNat, .int .u64 f1.toNat, .int .u64 f2.toNat, .int .u64 f3.toNat] 24) = W := ⟨_, rfl⟩
  rw [hF] at bf ⊢
  rw [hW] at bf b1 b2 hB ⊢
  clear hW hF
  go_cut [19] (fun p wx => p = .bool (decide (97 ≤ n ∧ n ≤ 122)) ∧ wx = W)
  case first =>
    go_wp2_with fail
    all_goals (go_meet; refine ⟨congrArg Value.bool ?_, rfl⟩)
    all_goals (rw [Bool.eq_iff_iff]; simp; try omega)
  case rest =>
  obtain ⟨rfl, rfl⟩ := hcut
  go_upto_if 19 with fail
  go_cut [9] (fun p wx => p = .int .u8 ((lowN n : Nat) : Int) ∧ wx = wc)
  case first =>
    by_cases hx : 97 ≤ n ∧ n ≤ 122
    · have hd : decide (97 ≤ n ∧ n ≤ 122) = true := decide_eq_true hx
      go_wp2_with fail
      go_meet
      exact ⟨by rw [lowN, if_pos hx]; (simp <;> omega), rfl⟩
    · have hd : decide (97 ≤ n ∧ n ≤ 122) = false := decide_eq_false hx
      go_wp2_with fail
      go_meet
      exact ⟨by rw [lowN, if_neg hx], rfl⟩
  case rest =>
  obtain ⟨rfl, rfl⟩ := hcut
  go_upto_region 6 with fail
  go_cut [27] (fun p wx => p = .bool (decide (65 ≤ n ∧ n ≤ 90)) ∧ wx = wc)
  case first =>
    go_wp2_with fail
    all_goals (go_meet; refine ⟨congrArg Value.bool ?_, rfl⟩)
    all_goals (rw [Bool.eq_iff_iff]; simp; try omega)
  case rest =>
  obtain ⟨rfl, rfl⟩ := hcut
  go_upto_if 27 with fail
  go_cut [9] (fun p wx => p = .int .u8 ((otherN n : Nat) : Int) ∧ wx = wc)
  case first =>
    by_cases hx : 65 ≤ n ∧ n ≤ 90
    · have hd : decide (65 ≤ n ∧ n ≤ 90) = true := decide_eq_true hx
      go_wp2_with fail
      go_meet
      exact ⟨by rw [otherN, if_pos hx]; (simp <;> omega), rfl⟩
    · have hd : decide (65 ≤ n ∧ n ≤ 90) = false := decide_eq_false hx
      go_wp2_with fail
      go_meet
      exact ⟨by rw [otherN, if_neg hx], rfl⟩
  case rest =>
  obtain ⟨rfl, rfl⟩ := hcut
  obtain ⟨o, ho⟩ : ∃ o, otherN n = o := ⟨_, rfl⟩
  have hoth : OtherOf n o := ho ▸ otherOf n
  rw [ho]
  clear ho
  have hlt : o < 256 := by rcases hoth with ⟨_, _, rfl⟩ | ⟨_, _, rfl⟩ | ⟨_, rfl⟩ <;> omega
  obtain ⟨q, hqe, hq⟩ : ∃ q : Int, IntKind.i64.wrap ((o : Int) - (n : Int)) = q ∧ (q = 0 ∨ q = 32 ∨ q = -32) := by
    refine ⟨_, rfl, ?_⟩
    rw [IntWalk.i64_in _ (by omega)]
    rcases hoth with ⟨_, _, rfl⟩ | ⟨_, _, rfl⟩ | ⟨_, rfl⟩ <;> omega
  have hq := Lib.hid hq
  have ho1 : IntKind.i64.wrap (o : Int) = (o : Int) := IntWalk.i64_in _ (by omega)
  have hn1 : IntKind.i64.wrap (n : Int) = (n : Int) := IntWalk.i64_in _ (by omega)
  have l1 := b1.lt
  have l2 := b2.lt
  have l3 := bf.lt
  obtain ⟨N, hN⟩ : ∃ N, Hid (wc.heap.size = N) := ⟨_, Lib.hid rfl⟩
  obtain ⟨g0, g1, g2, g3, hg⟩ : ∃ n0 n1 n2 n3, Hid ((WSet.mk e f g h).fold = ⟨n0, n1, n2, n3⟩) := ⟨_, _, _, _, Lib.hid rfl⟩
  obtain ⟨u0, u1, u2, u3, hu⟩ : ∃ n0 n1 n2 n3, Hid ((WSet.mk a b c d).or (WSet.mk e f g h) = ⟨n0, n1, n2, n3⟩) := ⟨_, _, _, _, Lib.hid rfl⟩
  obtain ⟨v0, v1, v2, v3, hv⟩ : ∃ n0 n1 n2 n3, Hid ((WSet.mk u0 u1 u2 u3).fold = ⟨n0, n1, n2, n3⟩) := ⟨_, _, _, _, Lib.hid rfl⟩
  have hff : Hid ((WSet.mk f0 f1 f2 f3).fold = ⟨f0, f1, f2, f3⟩) := Lib.hid (by rw [← hf.out, fold_fold])
  have hfs : Hid ((WSet.mk f0 f1 f2 f3).or (WSet.mk a b c d) = ⟨f0, f1, f2, f3⟩) := Lib.hid (by rw [← hf.out, fold_or_self])
  have hfg : Hid ((WSet.mk f0 f1 f2 f3).or (WSet.mk g0 g1 g2 g3) = ⟨v0, v1, v2, v3⟩) := Lib.hid (by rw [← hv.out, ← hu.out, ← hf.out, ← hg.out, fold_or])
  have hh := has_fold (WSet.mk a b c d) n o hn hoth
  rw [hf.out] at hh
  clear hoth
  cases hk : (WSet.mk a b c d).has n
  · rw [hk, Bool.false_or] at hh
    have h2 := Lib.hid hk
    obtain ⟨k, h3⟩ : ∃ k, Hid ((WSet.mk a b c d).has o = k) := ⟨_, Lib.hid rfl⟩
    rw [h3.out] at hh
    have h1 := Lib.hid hh
    clear hk hh
    go_upto_region 8 with fail
    go_region_held3 (fun wx => Below N wc wx ∧ wx.cell? ⟨w.heap.size, 0, none⟩ = some (.int .u64 (a.toNat : Int)) ∧ wx.cell? ⟨w.heap.size, 1, none⟩ = some (.int .u64 (b.toNat : Int)) ∧ wx.cell? ⟨w.heap.size, 2, none⟩ = some (.int .u64 (c.toNat : Int)) ∧ wx.cell? ⟨w.heap.size, 3, none⟩ = some (.int .u64 (d.toNat : Int)) ∧ wx.cell? ⟨w.heap.size + 1, 0, none⟩ = some (.int .u64 (e.toNat : Int)) ∧ wx.cell? ⟨w.heap.size + 1, 1, none⟩ = some (.int .u64 (f.toNat : Int)) ∧ wx.cell? ⟨w.heap.size + 1, 2, none⟩ = some (.int .u64 (g.toNat : Int)) ∧ wx.cell? ⟨w.heap.size + 1, 3, none⟩ = some (.int .u64 (h.toNat : Int)) ∧ wx.cell? ⟨F, 0, none⟩ = some (.int .u64 (f0.toNat : Int)) ∧ wx.cell? ⟨F, 1, none⟩ = some (.int .u64 (f1.toNat : Int)) ∧ wx.cell? ⟨F, 2, none⟩ = some (.int .u64 (f2.toNat : Int)) ∧ wx.cell? ⟨F, 3, none⟩ = some (.int .u64 (f3.toNat : Int)))
      ((go_split_ands; refine held3s hN.out b1 b2 bf l1 l2 l3 ?_; have hN := hN.out; repeat' (first | (with_reducible assumption) | (with_reducible exact Below.refl _ _) | (with_reducible refine Below.drew ?_) | (with_reducible refine Below.allocS hN ?_) | (with_reducible refine Below.setCell ?_ ?_ _; rotate_left; ((try dsimp only); omega)) | (refine Below.transS (wx := ?_) hN ?_ ?_; rotate_left 2; assumption))))
      (first
        | (go_at_call 14; refine (fold_any _ _ _ _ _).mono ?_; rintro e w' ⟨rfl, hb⟩; (first | rw [hff.out] | rw [hv.out] | rw [hg.out]))
        | (go_at_call 27; refine (union2_at ?_ ?_ ?_ ?_ ?_ ?_ ?_ ?_ _ _ (0, 0) ?_).mono ?_; rotate_left 8; (focus (repeat' (first | (with_reducible assumption) | (with_reducible refine heap_at ?_; go_size) | (with_reducible refine heap_up ?_) | (with_reducible refine heap_drew ?_) | (refine heap_belowS (wx := ?_) ?_ ?_; rotate_left 2; assumption)))); rintro e w' ⟨rfl, hb⟩; (first | rw [hfs.out] | rw [hu.out] | rw [hfg.out]))
        | (go_at_call 10; refine (has_any _ _ _ _ _ (by omega) (by omega) _).mono ?_; rintro e w' ⟨rfl, hb⟩; rw [Int.toNat_natCast]; (first | rw [h1.out] | rw [h2.out] | rw [h3.out]))
        | (go_at_call 40; refine (mod_any _ hq.out _).mono ?_; rintro e w' ⟨rfl, hb⟩))

    all_goals (go_wp2_with fail; go_ret; refine ⟨rfl, below_from hB hN.out ?_⟩; have hN := hN.out; repeat' (first | (with_reducible assumption) | (with_reducible exact Below.refl _ _) | (with_reducible refine Below.drew ?_) | (with_reducible refine Below.allocS hN ?_) | (with_reducible refine Below.setCell ?_ ?_ _; rotate_left; ((try dsimp only); omega)) | (refine Below.transS (wx := ?_) hN ?_ ?_; rotate_left 2; assumption)))
  · rw [hk, Bool.true_or] at hh
    have h2 := Lib.hid hk
    have h3 := Lib.hid hk
    have h1 := Lib.hid hh
    clear hk hh
    go_upto_region 8 with fail
    refine wp_region_noPanic ?_
    refine wp_region_held_drew (S := fun wx => Below N wc wx ∧ wx.cell? ⟨w.heap.size, 0, none⟩ = some (.int .u64 (a.toNat : Int)) ∧ wx.cell? ⟨w.heap.size, 1, none⟩ = some (.int .u64 (b.toNat : Int)) ∧ wx.cell? ⟨w.heap.size, 2, none⟩ = some (.int .u64 (c.toNat : Int)) ∧ wx.cell? ⟨w.heap.size, 3, none⟩ = some (.int .u64 (d.toNat : Int)) ∧ wx.cell? ⟨w.heap.size + 1, 0, none⟩ = some (.int .u64 (e.toNat : Int)) ∧ wx.cell? ⟨w.heap.size + 1, 1, none⟩ = some (.int .u64 (f.toNat : Int)) ∧ wx.cell? ⟨w.heap.size + 1, 2, none⟩ = some (.int .u64 (g.toNat : Int)) ∧ wx.cell? ⟨w.heap.size + 1, 3, none⟩ = some (.int .u64 (h.toNat : Int)) ∧ wx.cell? ⟨F, 0, none⟩ = some (.int .u64 (f0.toNat : Int)) ∧ wx.cell? ⟨F, 1, none⟩ = some (.int .u64 (f1.toNat : Int)) ∧ wx.cell? ⟨F, 2, none⟩ = some (.int .u64 (f2.toNat : Int)) ∧ wx.cell? ⟨F, 3, none⟩ = some (.int .u64 (f3.toNat : Int))) (by kernel_rfl) ?_ (fun hHeld => ?_)
    focus ((try dsimp only); ((go_split_ands; refine held3s hN.out b1 b2 bf l1 l2 l3 ?_; have hN := hN.out; repeat' (first | (with_reducible assumption) | (with_reducible exact Below.refl _ _) | (with_reducible refine Below.drew ?_) | (with_reducible refine Below.allocS hN ?_) | (with_reducible refine Below.setCell ?_ ?_ _; rotate_left; ((try dsimp only); omega)) | (refine Below.transS (wx := ?_) hN ?_ ?_; rotate_left 2; assumption)))))
    try simp only [Act.put, List.setIfInBounds_toArray, List.set_cons_zero, List.set_cons_succ]
    refine wpAnyH_take (i := 0) (oi := { dst := some 30, op := Go.Op.move (Go.Operand.tmp 7), type := 4, pos := "law.go:133", after := #[], guard := none }) (v := ?_) rfl (by kernel_rfl) (by kernel_rfl) (by kernel_rfl) (fun _ _ _ h => h) (Or.inl ⟨by rfl, ?_⟩) (by assumption) ?_
    rotate_left
    focus ((intro w hSw; (try dsimp only at hSw); go_simp) <;> (with_reducible rfl))
    try simp only [Act.put, List.setIfInBounds_toArray, List.set_cons_zero, List.set_cons_succ]
    refine wpAnyH_take (i := 1) (oi := { dst := some 31, op := Go.Op.move (Go.Operand.tmp 30), type := 4, pos := "law.go:133", after := #[{ on := 0, ground := Go.Ground.data }], guard := none }) (v := ?_) rfl (by kernel_rfl) (by kernel_rfl) (by kernel_rfl) (fun _ _ _ h => h) (Or.inl ⟨by rfl, ?_⟩) (by assumption) ?_
    rotate_left
    focus ((intro w hSw; (try dsimp only at hSw); go_simp) <;> (with_reducible rfl))
    try simp only [Act.put, List.setIfInBounds_toArray, List.set_cons_zero, List.set_cons_succ]
    refine wpAnyH_take (i := 2) (oi := { dst := some 32, op := Go.Op.load 24 (Go.Operand.tmp 8), type := 24, pos := "law.go:133", after := #[{ on := 1, ground := Go.Ground.guard }], guard := some (1, true) }) (v := ?_) rfl (by kernel_rfl) (by kernel_rfl) (by kernel_rfl) (fun _ _ _ h => h) (Or.inl ⟨by rfl, ?_⟩) (by assumption) ?_
    rotate_left
    focus ((intro w hSw; (try dsimp only at hSw); go_simp) <;> (with_reducible rfl))
    try simp only [Act.put, List.setIfInBounds_toArray, List.set_cons_zero, List.set_cons_succ]
    refine wpAnyH_take (i := 4) (oi := { dst := some 34, op := Go.Op.load 24 (Go.Operand.tmp 8), type := 24, pos := "law.go:133", after := #[{ on := 1, ground := Go.Ground.guard }], guard := some (1, true) }) (v := ?_) rfl (by kernel_rfl) (by kernel_rfl) (by kernel_rfl) (fun _ _ _ h => h) (Or.inl ⟨by rfl, ?_⟩) (by assumption) ?_
    rotate_left
    focus ((intro w hSw; (try dsimp only at hSw); go_simp) <;> (with_reducible rfl))
    try simp only [Act.put, List.setIfInBounds_toArray, List.set_cons_zero, List.set_cons_succ]
    refine wpAnyH_ready (rs := [3]) (by kernel_rfl) (by simp) ?_
    refine AllReadyH.cons (o := { dst := some 33, op := Go.Op.call { callee := Go.Callee.value (Go.Operand.func 14), args := #[Go.Operand.tmp 32], argTypes := #[24] }, type := 24, pos := "law.go:133", after := #[{ on := 2, ground := Go.Ground.data }, { on := 1, ground := Go.Ground.chain }, { on := 1, ground := Go.Ground.guard }], guard := some (1, true) }) rfl (fun K hK => ?_) AllReadyH.nil
    go_simp
    (first | (go_at_call 14; refine (fold_any _ _ _ _ _).mono ?_; rintro e w' ⟨rfl, hb⟩; (first | rw [hff.out] | rw [hv.out] | rw [hg.out])) | (go_at_call 27; refine (union2_at ?_ ?_ ?_ ?_ ?_ ?_ ?_ ?_ _ _ (0, 0) ?_).mono ?_; rotate_left 8; (focus (repeat' (first | (with_reducible assumption) | (with_reducible refine heap_at ?_; go_size) | (with_reducible refine heap_up ?_) | (with_reducible refine heap_drew ?_) | (refine heap_belowS (wx := ?_) ?_ ?_; rotate_left 2; assumption)))); rintro e w' ⟨rfl, hb⟩; (first | rw [hfs.out] | rw [hu.out] | rw [hfg.out])) | (go_at_call 10; refine (has_any _ _ _ _ _ (by omega) (by omega) _).mono ?_; rintro e w' ⟨rfl, hb⟩; rw [Int.toNat_natCast]; (first | rw [h1.out] | rw [h2.out] | rw [h3.out])) | (go_at_call 40; refine (mod_any _ hq.out _).mono ?_; rintro e w' ⟨rfl, hb⟩))
    first | (go_wp2_with fail) | skip
    refine hK.out _ _ ?_ (fun hNew => ?_)
    focus ((try dsimp only); ((go_split_ands; refine held3s hN.out b1 b2 bf l1 l2 l3 ?_; have hN := hN.out; repeat' (first | (with_reducible assumption) | (with_reducible exact Below.refl _ _) | (with_reducible refine Below.drew ?_) | (with_reducible refine Below.allocS hN ?_) | (with_reducible refine Below.setCell ?_ ?_ _; rotate_left; ((try dsimp only); omega)) | (refine Below.transS (wx := ?_) hN ?_ ?_; rotate_left 2; assumption)))))
    clear hK K hHeld
    have hHeld := hNew
    clear hNew
    try simp only [Act.put, List.setIfInBounds_toArray, List.set_cons_zero, List.set_cons_succ]
    refine wpAnyH_take (i := 5) (oi := { dst := some 35, op := Go.Op.binOp Go.BinOp.eql 24 (Go.Operand.tmp 33) (Go.Operand.tmp 34) 24, type := 4, pos := "law.go:133", after := #[{ on := 3, ground := Go.Ground.data }, { on := 4, ground := Go.Ground.data }, { on := 1, ground := Go.Ground.guard }], guard := some (1, true) }) (v := ?_) rfl (by kernel_rfl) (by kernel_rfl) (by kernel_rfl) (fun _ _ _ h => h) (Or.inl ⟨by rfl, ?_⟩) (by assumption) ?_
    rotate_left
    focus ((intro w hSw; (try dsimp only at hSw); go_simp) <;> (with_reducible rfl))
    try simp only [Act.put, List.setIfInBounds_toArray, List.set_cons_zero, List.set_cons_succ]
    refine wpAnyH_take (i := 6) (oi := { dst := some 36, op := Go.Op.pick (Go.Operand.tmp 31) (Go.Operand.tmp 35) (Go.Operand.const (Go.Value.bool false)), type := 4, pos := "law.go:133", after := #[{ on := 1, ground := Go.Ground.data }, { on := 5, ground := Go.Ground.data }], guard := none }) (v := ?_) rfl (by kernel_rfl) (by kernel_rfl) (by kernel_rfl) (fun _ _ _ h => h) (Or.inl ⟨by rfl, ?_⟩) (by assumption) ?_
    rotate_left
    focus ((intro w hSw; (try dsimp only at hSw); go_simp) <;> (with_reducible rfl))
    try simp only [Act.put, List.setIfInBounds_toArray, List.set_cons_zero, List.set_cons_succ]
    refine wpAnyH_take (i := 7) (oi := { dst := some 37, op := Go.Op.move (Go.Operand.tmp 36), type := 4, pos := "law.go:133", after := #[{ on := 6, ground := Go.Ground.data }, { on := 3, ground := Go.Ground.chain }], guard := none }) (v := ?_) rfl (by kernel_rfl) (by kernel_rfl) (by kernel_rfl) (fun _ _ _ h => h) (Or.inl ⟨by rfl, ?_⟩) (by assumption) ?_
    rotate_left
    focus ((intro w hSw; (try dsimp only at hSw); go_simp) <;> (with_reducible rfl))
    try simp only [Act.put, List.setIfInBounds_toArray, List.set_cons_zero, List.set_cons_succ]
    refine wpAnyH_take (i := 8) (oi := { dst := some 38, op := Go.Op.load 24 (Go.Operand.tmp 8), type := 24, pos := "law.go:133", after := #[{ on := 7, ground := Go.Ground.guard }], guard := some (7, true) }) (v := ?_) rfl (by kernel_rfl) (by kernel_rfl) (by kernel_rfl) (fun _ _ _ h => h) (Or.inl ⟨by rfl, ?_⟩) (by assumption) ?_
    rotate_left
    focus ((intro w hSw; (try dsimp only at hSw); go_simp) <;> (with_reducible rfl))
    try simp only [Act.put, List.setIfInBounds_toArray, List.set_cons_zero, List.set_cons_succ]
    refine wpAnyH_take (i := 9) (oi := { dst := some 39, op := Go.Op.load 24 (Go.Operand.tmp 3), type := 24, pos := "law.go:133", after := #[{ on := 7, ground := Go.Ground.guard }], guard := some (7, true) }) (v := ?_) rfl (by kernel_rfl) (by kernel_rfl) (by kernel_rfl) (fun _ _ _ h => h) (Or.inl ⟨by rfl, ?_⟩) (by assumption) ?_
    rotate_left
    focus ((intro w hSw; (try dsimp only at hSw); go_simp) <;> (with_reducible rfl))
    try simp only [Act.put, List.setIfInBounds_toArray, List.set_cons_zero, List.set_cons_succ]
    refine wpAnyH_take (i := 12) (oi := { dst := some 42, op := Go.Op.load 24 (Go.Operand.tmp 8), type := 24, pos := "law.go:133", after := #[{ on := 7, ground := Go.Ground.guard }], guard := some (7, true) }) (v := ?_) rfl (by kernel_rfl) (by kernel_rfl) (by kernel_rfl) (fun _ _ _ h => h) (Or.inl ⟨by rfl, ?_⟩) (by assumption) ?_
    rotate_left
    focus ((intro w hSw; (try dsimp only at hSw); go_simp) <;> (with_reducible rfl))
    try simp only [Act.put, List.setIfInBounds_toArray, List.set_cons_zero, List.set_cons_succ]
    refine wpAnyH_ready (rs := [10]) (by kernel_rfl) (by simp) ?_
    refine AllReadyH.cons (o := { dst := some 40, op := Go.Op.buildSlice 36 2 #[(0, Go.Operand.tmp 38), (1, Go.Operand.tmp 39)], type := 36, pos := "law.go:133", after := #[{ on := 8, ground := Go.Ground.data }, { on := 9, ground := Go.Ground.data }, { on := 7, ground := Go.Ground.guard }], guard := some (7, true) }) rfl (fun K hK => ?_) AllReadyH.nil
    go_simp
    refine hK.out _ _ ?_ (fun hNew => ?_)
    focus ((try dsimp only); ((go_split_ands; refine held3s hN.out b1 b2 bf l1 l2 l3 ?_; have hN := hN.out; repeat' (first | (with_reducible assumption) | (with_reducible exact Below.refl _ _) | (with_reducible refine Below.drew ?_) | (with_reducible refine Below.allocS hN ?_) | (with_reducible refine Below.setCell ?_ ?_ _; rotate_left; ((try dsimp only); omega)) | (refine Below.transS (wx := ?_) hN ?_ ?_; rotate_left 2; assumption)))))
    clear hK K hHeld
    have hHeld := hNew
    clear hNew
    try simp only [Act.put, List.setIfInBounds_toArray, List.set_cons_zero, List.set_cons_succ]
    refine wpAnyH_ready (rs := [11]) (by kernel_rfl) (by simp) ?_
    refine AllReadyH.cons (o := { dst := some 41, op := Go.Op.call { callee := Go.Callee.value (Go.Operand.func 27), args := #[Go.Operand.tmp 40], argTypes := #[36] }, type := 24, pos := "law.go:133", after := #[{ on := 10, ground := Go.Ground.data }, { on := 7, ground := Go.Ground.chain }, { on := 7, ground := Go.Ground.guard }], guard := some (7, true) }) rfl (fun K hK => ?_) AllReadyH.nil
    go_simp
    (first | (go_at_call 14; refine (fold_any _ _ _ _ _).mono ?_; rintro e w' ⟨rfl, hb⟩; (first | rw [hff.out] | rw [hv.out] | rw [hg.out])) | (go_at_call 27; refine (union2_at ?_ ?_ ?_ ?_ ?_ ?_ ?_ ?_ _ _ (0, 0) ?_).mono ?_; rotate_left 8; (focus (repeat' (first | (with_reducible assumption) | (with_reducible refine heap_at ?_; go_size) | (with_reducible refine heap_up ?_) | (with_reducible refine heap_drew ?_) | (refine heap_belowS (wx := ?_) ?_ ?_; rotate_left 2; assumption)))); rintro e w' ⟨rfl, hb⟩; (first | rw [hfs.out] | rw [hu.out] | rw [hfg.out])) | (go_at_call 10; refine (has_any _ _ _ _ _ (by omega) (by omega) _).mono ?_; rintro e w' ⟨rfl, hb⟩; rw [Int.toNat_natCast]; (first | rw [h1.out] | rw [h2.out] | rw [h3.out])) | (go_at_call 40; refine (mod_any _ hq.out _).mono ?_; rintro e w' ⟨rfl, hb⟩))
    first | (go_wp2_with fail) | skip
    refine hK.out _ _ ?_ (fun hNew => ?_)
    focus ((try dsimp only); ((go_split_ands; refine held3s hN.out b1 b2 bf l1 l2 l3 ?_; have hN := hN.out; repeat' (first | (with_reducible assumption) | (with_reducible exact Below.refl _ _) | (with_reducible refine Below.drew ?_) | (with_reducible refine Below.allocS hN ?_) | (with_reducible refine Below.setCell ?_ ?_ _; rotate_left; ((try dsimp only); omega)) | (refine Below.transS (wx := ?_) hN ?_ ?_; rotate_left 2; assumption)))))
    clear hK K hHeld
    have hHeld := hNew
    clear hNew
    try simp only [Act.put, List.setIfInBounds_toArray, List.set_cons_zero, List.set_cons_succ]
    refine wpAnyH_take (i := 13) (oi := { dst := some 43, op := Go.Op.binOp Go.BinOp.eql 24 (Go.Operand.tmp 41) (Go.Operand.tmp 42) 24, type := 4, pos := "law.go:133", after := #[{ on := 11, ground := Go.Ground.data }, { on := 12, ground := Go.Ground.data }, { on := 7, ground := Go.Ground.guard }], guard := some (7, true) }) (v := ?_) rfl (by kernel_rfl) (by kernel_rfl) (by kernel_rfl) (fun _ _ _ h => h) (Or.inl ⟨by rfl, ?_⟩) (by assumption) ?_
    rotate_left
    focus ((intro w hSw; (try dsimp only at hSw); go_simp) <;> (with_reducible rfl))
    try simp only [Act.put, List.setIfInBounds_toArray, List.set_cons_zero, List.set_cons_succ]
    refine wpAnyH_take (i := 14) (oi := { dst := some 44, op := Go.Op.pick (Go.Operand.tmp 37) (Go.Operand.tmp 43) (Go.Operand.const (Go.Value.bool false)), type := 4, pos := "law.go:133", after := #[{ on := 7, ground := Go.Ground.data }, { on := 13, ground := Go.Ground.data }], guard := none }) (v := ?_) rfl (by kernel_rfl) (by kernel_rfl) (by kernel_rfl) (fun _ _ _ h => h) (Or.inl ⟨by rfl, ?_⟩) (by assumption) ?_
    rotate_left
    focus ((intro w hSw; (try dsimp only at hSw); go_simp) <;> (with_reducible rfl))
    try simp only [Act.put, List.setIfInBounds_toArray, List.set_cons_zero, List.set_cons_succ]
    refine wpAnyH_take (i := 15) (oi := { dst := some 45, op := Go.Op.move (Go.Operand.tmp 44), type := 4, pos := "law.go:133", after := #[{ on := 14, ground := Go.Ground.data }, { on := 11, ground := Go.Ground.chain }], guard := none }) (v := ?_) rfl (by kernel_rfl) (by kernel_rfl) (by kernel_rfl) (fun _ _ _ h => h) (Or.inl ⟨by rfl, ?_⟩) (by assumption) ?_
    rotate_left
    focus ((intro w hSw; (try dsimp only at hSw); go_simp) <;> (with_reducible rfl))
    try simp only [Act.put, List.setIfInBounds_toArray, List.set_cons_zero, List.set_cons_succ]
    refine wpAnyH_take (i := 16) (oi := { dst := some 46, op := Go.Op.load 24 (Go.Operand.tmp 3), type := 24, pos := "law.go:133", after := #[{ on := 15, ground := Go.Ground.guard }], guard := some (15, true) }) (v := ?_) rfl (by kernel_rfl) (by kernel_rfl) (by kernel_rfl) (fun _ _ _ h => h) (Or.inl ⟨by rfl, ?_⟩) (by assumption) ?_
    rotate_left
    focus ((intro w hSw; (try dsimp only at hSw); go_simp) <;> (with_reducible rfl))
    try simp only [Act.put, List.setIfInBounds_toArray, List.set_cons_zero, List.set_cons_succ]
    refine wpAnyH_take (i := 17) (oi := { dst := some 47, op := Go.Op.load 24 (Go.Operand.tmp 4), type := 24, pos := "law.go:133", after := #[{ on := 15, ground := Go.Ground.guard }], guard := some (15, true) }) (v := ?_) rfl (by kernel_rfl) (by kernel_rfl) (by kernel_rfl) (fun _ _ _ h => h) (Or.inl ⟨by rfl, ?_⟩) (by assumption) ?_
    rotate_left
    focus ((intro w hSw; (try dsimp only at hSw); go_simp) <;> (with_reducible rfl))
    try simp only [Act.put, List.setIfInBounds_toArray, List.set_cons_zero, List.set_cons_succ]
    refine wpAnyH_take (i := 21) (oi := { dst := some 51, op := Go.Op.load 24 (Go.Operand.tmp 8), type := 24, pos := "law.go:133", after := #[{ on := 15, ground := Go.Ground.guard }], guard := some (15, true) }) (v := ?_) rfl (by kernel_rfl) (by kernel_rfl) (by kernel_rfl) (fun _ _ _ h => h) (Or.inl ⟨by rfl, ?_⟩) (by assumption) ?_
    rotate_left
    focus ((intro w hSw; (try dsimp only at hSw); go_simp) <;> (with_reducible rfl))
    try simp only [Act.put, List.setIfInBounds_toArray, List.set_cons_zero, List.set_cons_succ]
    refine wpAnyH_take (i := 22) (oi := { dst := some 52, op := Go.Op.load 24 (Go.Operand.tmp 4), type := 24, pos := "law.go:133", after := #[{ on := 15, ground := Go.Ground.guard }], guard := some (15, true) }) (v := ?_) rfl (by kernel_rfl) (by kernel_rfl) (by kernel_rfl) (fun _ _ _ h => h) (Or.inl ⟨by rfl, ?_⟩) (by assumption) ?_
    rotate_left
    focus ((intro w hSw; (try dsimp only at hSw); go_simp) <;> (with_reducible rfl))
    try simp only [Act.put, List.setIfInBounds_toArray, List.set_cons_zero, List.set_cons_succ]
    refine wpAnyH_ready (rs := [18]) (by kernel_rfl) (by simp) ?_
    refine AllReadyH.cons (o := { dst := some 48, op := Go.Op.buildSlice 36 2 #[(0, Go.Operand.tmp 46), (1, Go.Operand.tmp 47)], type := 36, pos := "law.go:133", after := #[{ on := 16, ground := Go.Ground.data }, { on := 17, ground := Go.Ground.data }, { on := 15, ground := Go.Ground.guard }], guard := some (15, true) }) rfl (fun K hK => ?_) AllReadyH.nil
    go_simp
    refine hK.out _ _ ?_ (fun hNew => ?_)
    focus ((try dsimp only); ((go_split_ands; refine held3s hN.out b1 b2 bf l1 l2 l3 ?_; have hN := hN.out; repeat' (first | (with_reducible assumption) | (with_reducible exact Below.refl _ _) | (with_reducible refine Below.drew ?_) | (with_reducible refine Below.allocS hN ?_) | (with_reducible refine Below.setCell ?_ ?_ _; rotate_left; ((try dsimp only); omega)) | (refine Below.transS (wx := ?_) hN ?_ ?_; rotate_left 2; assumption)))))
    clear hK K hHeld
    have hHeld := hNew
    clear hNew
    try simp only [Act.put, List.setIfInBounds_toArray, List.set_cons_zero, List.set_cons_succ]
    refine wpAnyH_ready (rs := [19]) (by kernel_rfl) (by simp) ?_
    refine AllReadyH.cons (o := { dst := some 49, op := Go.Op.call { callee := Go.Callee.value (Go.Operand.func 27), args := #[Go.Operand.tmp 48], argTypes := #[36] }, type := 24, pos := "law.go:133", after := #[{ on := 18, ground := Go.Ground.data }, { on := 15, ground := Go.Ground.chain }, { on := 15, ground := Go.Ground.guard }], guard := some (15, true) }) rfl (fun K hK => ?_) AllReadyH.nil
    go_simp
    (first | (go_at_call 14; refine (fold_any _ _ _ _ _).mono ?_; rintro e w' ⟨rfl, hb⟩; (first | rw [hff.out] | rw [hv.out] | rw [hg.out])) | (go_at_call 27; refine (union2_at ?_ ?_ ?_ ?_ ?_ ?_ ?_ ?_ _ _ (0, 0) ?_).mono ?_; rotate_left 8; (focus (repeat' (first | (with_reducible assumption) | (with_reducible refine heap_at ?_; go_size) | (with_reducible refine heap_up ?_) | (with_reducible refine heap_drew ?_) | (refine heap_belowS (wx := ?_) ?_ ?_; rotate_left 2; assumption)))); rintro e w' ⟨rfl, hb⟩; (first | rw [hfs.out] | rw [hu.out] | rw [hfg.out])) | (go_at_call 10; refine (has_any _ _ _ _ _ (by omega) (by omega) _).mono ?_; rintro e w' ⟨rfl, hb⟩; rw [Int.toNat_natCast]; (first | rw [h1.out] | rw [h2.out] | rw [h3.out])) | (go_at_call 40; refine (mod_any _ hq.out _).mono ?_; rintro e w' ⟨rfl, hb⟩))
    first | (go_wp2_with fail) | skip
    refine hK.out _ _ ?_ (fun hNew => ?_)
    focus ((try dsimp only); ((go_split_ands; refine held3s hN.out b1 b2 bf l1 l2 l3 ?_; have hN := hN.out; repeat' (first | (with_reducible assumption) | (with_reducible exact Below.refl _ _) | (with_reducible refine Below.drew ?_) | (with_reducible refine Below.allocS hN ?_) | (with_reducible refine Below.setCell ?_ ?_ _; rotate_left; ((try dsimp only); omega)) | (refine Below.transS (wx := ?_) hN ?_ ?_; rotate_left 2; assumption)))))
    clear hK K hHeld
    have hHeld := hNew
    clear hNew
    try simp only [Act.put, List.setIfInBounds_toArray, List.set_cons_zero, List.set_cons_succ]
    refine wpAnyH_ready (rs := [20]) (by kernel_rfl) (by simp) ?_
    refine AllReadyH.cons (o := { dst := some 50, op := Go.Op.call { callee := Go.Callee.value (Go.Operand.func 14), args := #[Go.Operand.tmp 49], argTypes := #[24] }, type := 24, pos := "law.go:133", after := #[{ on := 19, ground := Go.Ground.data }, { on := 19, ground := Go.Ground.chain }, { on := 15, ground := Go.Ground.guard }], guard := some (15, true) }) rfl (fun K hK => ?_) AllReadyH.nil
    go_simp
    (first | (go_at_call 14; refine (fold_any _ _ _ _ _).mono ?_; rintro e w' ⟨rfl, hb⟩; (first | rw [hff.out] | rw [hv.out] | rw [hg.out])) | (go_at_call 27; refine (union2_at ?_ ?_ ?_ ?_ ?_ ?_ ?_ ?_ _ _ (0, 0) ?_).mono ?_; rotate_left 8; (focus (repeat' (first | (with_reducible assumption) | (with_reducible refine heap_at ?_; go_size) | (with_reducible refine heap_up ?_) | (with_reducible refine heap_drew ?_) | (refine heap_belowS (wx := ?_) ?_ ?_; rotate_left 2; assumption)))); rintro e w' ⟨rfl, hb⟩; (first | rw [hfs.out] | rw [hu.out] | rw [hfg.out])) | (go_at_call 10; refine (has_any _ _ _ _ _ (by omega) (by omega) _).mono ?_; rintro e w' ⟨rfl, hb⟩; rw [Int.toNat_natCast]; (first | rw [h1.out] | rw [h2.out] | rw [h3.out])) | (go_at_call 40; refine (mod_any _ hq.out _).mono ?_; rintro e w' ⟨rfl, hb⟩))
    first | (go_wp2_with fail) | skip
    refine hK.out _ _ ?_ (fun hNew => ?_)
    focus ((try dsimp only); ((go_split_ands; refine held3s hN.out b1 b2 bf l1 l2 l3 ?_; have hN := hN.out; repeat' (first | (with_reducible assumption) | (with_reducible exact Below.refl _ _) | (with_reducible refine Below.drew ?_) | (with_reducible refine Below.allocS hN ?_) | (with_reducible refine Below.setCell ?_ ?_ _; rotate_left; ((try dsimp only); omega)) | (refine Below.transS (wx := ?_) hN ?_ ?_; rotate_left 2; assumption)))))
    clear hK K hHeld
    have hHeld := hNew
    clear hNew
    try simp only [Act.put, List.setIfInBounds_toArray, List.set_cons_zero, List.set_cons_succ]
    refine wpAnyH_ready (rs := [23]) (by kernel_rfl) (by simp) ?_
    refine AllReadyH.cons (o := { dst := some 53, op := Go.Op.call { callee := Go.Callee.value (Go.Operand.func 14), args := #[Go.Operand.tmp 52], argTypes := #[24] }, type := 24, pos := "law.go:133", after := #[{ on := 22, ground := Go.Ground.data }, { on := 20, ground := Go.Ground.chain }, { on := 15, ground := Go.Ground.guard }], guard := some (15, true) }) rfl (fun K hK => ?_) AllReadyH.nil
    go_simp
    (first | (go_at_call 14; refine (fold_any _ _ _ _ _).mono ?_; rintro e w' ⟨rfl, hb⟩; (first | rw [hff.out] | rw [hv.out] | rw [hg.out])) | (go_at_call 27; refine (union2_at ?_ ?_ ?_ ?_ ?_ ?_ ?_ ?_ _ _ (0, 0) ?_).mono ?_; rotate_left 8; (focus (repeat' (first | (with_reducible assumption) | (with_reducible refine heap_at ?_; go_size) | (with_reducible refine heap_up ?_) | (with_reducible refine heap_drew ?_) | (refine heap_belowS (wx := ?_) ?_ ?_; rotate_left 2; assumption)))); rintro e w' ⟨rfl, hb⟩; (first | rw [hfs.out] | rw [hu.out] | rw [hfg.out])) | (go_at_call 10; refine (has_any _ _ _ _ _ (by omega) (by omega) _).mono ?_; rintro e w' ⟨rfl, hb⟩; rw [Int.toNat_natCast]; (first | rw [h1.out] | rw [h2.out] | rw [h3.out])) | (go_at_call 40; refine (mod_any _ hq.out _).mono ?_; rintro e w' ⟨rfl, hb⟩))
    first | (go_wp2_with fail) | skip
    refine hK.out _ _ ?_ (fun hNew => ?_)
    focus ((try dsimp only); ((go_split_ands; refine held3s hN.out b1 b2 bf l1 l2 l3 ?_; have hN := hN.out; repeat' (first | (with_reducible assumption) | (with_reducible exact Below.refl _ _) | (with_reducible refine Below.drew ?_) | (with_reducible refine Below.allocS hN ?_) | (with_reducible refine Below.setCell ?_ ?_ _; rotate_left; ((try dsimp only); omega)) | (refine Below.transS (wx := ?_) hN ?_ ?_; rotate_left 2; assumption)))))
    clear hK K hHeld
    have hHeld := hNew
    clear hNew
    try simp only [Act.put, List.setIfInBounds_toArray, List.set_cons_zero, List.set_cons_succ]
    refine wpAnyH_ready (rs := [24]) (by kernel_rfl) (by simp) ?_
    refine AllReadyH.cons (o := { dst := some 54, op := Go.Op.buildSlice 36 2 #[(0, Go.Operand.tmp 51), (1, Go.Operand.tmp 53)], type := 36, pos := "law.go:133", after := #[{ on := 21, ground := Go.Ground.data }, { on := 23, ground := Go.Ground.data }, { on := 15, ground := Go.Ground.guard }], guard := some (15, true) }) rfl (fun K hK => ?_) AllReadyH.nil
    go_simp
    refine hK.out _ _ ?_ (fun hNew => ?_)
    focus ((try dsimp only); ((go_split_ands; refine held3s hN.out b1 b2 bf l1 l2 l3 ?_; have hN := hN.out; repeat' (first | (with_reducible assumption) | (with_reducible exact Below.refl _ _) | (with_reducible refine Below.drew ?_) | (with_reducible refine Below.allocS hN ?_) | (with_reducible refine Below.setCell ?_ ?_ _; rotate_left; ((try dsimp only); omega)) | (refine Below.transS (wx := ?_) hN ?_ ?_; rotate_left 2; assumption)))))
    clear hK K hHeld
    have hHeld := hNew
    clear hNew
    try simp only [Act.put, List.setIfInBounds_toArray, List.set_cons_zero, List.set_cons_succ]
    refine wpAnyH_ready (rs := [25]) (by kernel_rfl) (by simp) ?_
    refine AllReadyH.cons (o := { dst := some 55, op := Go.Op.call { callee := Go.Callee.value (Go.Operand.func 27), args := #[Go.Operand.tmp 54], argTypes := #[36] }, type := 24, pos := "law.go:133", after := #[{ on := 24, ground := Go.Ground.data }, { on := 23, ground := Go.Ground.chain }, { on := 15, ground := Go.Ground.guard }], guard := some (15, true) }) rfl (fun K hK => ?_) AllReadyH.nil
    go_simp
    (first | (go_at_call 14; refine (fold_any _ _ _ _ _).mono ?_; rintro e w' ⟨rfl, hb⟩; (first | rw [hff.out] | rw [hv.out] | rw [hg.out])) | (go_at_call 27; refine (union2_at ?_ ?_ ?_ ?_ ?_ ?_ ?_ ?_ _ _ (0, 0) ?_).mono ?_; rotate_left 8; (focus (repeat' (first | (with_reducible assumption) | (with_reducible refine heap_at ?_; go_size) | (with_reducible refine heap_up ?_) | (with_reducible refine heap_drew ?_) | (refine heap_belowS (wx := ?_) ?_ ?_; rotate_left 2; assumption)))); rintro e w' ⟨rfl, hb⟩; (first | rw [hfs.out] | rw [hu.out] | rw [hfg.out])) | (go_at_call 10; refine (has_any _ _ _ _ _ (by omega) (by omega) _).mono ?_; rintro e w' ⟨rfl, hb⟩; rw [Int.toNat_natCast]; (first | rw [h1.out] | rw [h2.out] | rw [h3.out])) | (go_at_call 40; refine (mod_any _ hq.out _).mono ?_; rintro e w' ⟨rfl, hb⟩))
    first | (go_wp2_with fail) | skip
    refine hK.out _ _ ?_ (fun hNew => ?_)
    focus ((try dsimp only); ((go_split_ands; refine held3s hN.out b1 b2 bf l1 l2 l3 ?_; have hN := hN.out; repeat' (first | (with_reducible assumption) | (with_reducible exact Below.refl _ _) | (with_reducible refine Below.drew ?_) | (with_reducible refine Below.allocS hN ?_) | (with_reducible refine Below.setCell ?_ ?_ _; rotate_left; ((try dsimp only); omega)) | (refine Below.transS (wx := ?_) hN ?_ ?_; rotate_left 2; assumption)))))
    clear hK K hHeld
    have hHeld := hNew
    clear hNew
    try simp only [Act.put, List.setIfInBounds_toArray, List.set_cons_zero, List.set_cons_succ]
    refine wpAnyH_take (i := 26) (oi := { dst := some 56, op := Go.Op.binOp Go.BinOp.eql 24 (Go.Operand.tmp 50) (Go.Operand.tmp 55) 24, type := 4, pos := "law.go:133", after := #[{ on := 20, ground := Go.Ground.data }, { on := 25, ground := Go.Ground.data }, { on := 15, ground := Go.Ground.guard }], guard := some (15, true) }) (v := ?_) rfl (by kernel_rfl) (by kernel_rfl) (by kernel_rfl) (fun _ _ _ h => h) (Or.inl ⟨by rfl, ?_⟩) (by assumption) ?_
    rotate_left
    focus ((intro w hSw; (try dsimp only at hSw); go_simp) <;> (with_reducible rfl))
    try simp only [Act.put, List.setIfInBounds_toArray, List.set_cons_zero, List.set_cons_succ]
    refine wpAnyH_take (i := 27) (oi := { dst := some 57, op := Go.Op.pick (Go.Operand.tmp 45) (Go.Operand.tmp 56) (Go.Operand.const (Go.Value.bool false)), type := 4, pos := "law.go:133", after := #[{ on := 15, ground := Go.Ground.data }, { on := 26, ground := Go.Ground.data }], guard := none }) (v := ?_) rfl (by kernel_rfl) (by kernel_rfl) (by kernel_rfl) (fun _ _ _ h => h) (Or.inl ⟨by rfl, ?_⟩) (by assumption) ?_
    rotate_left
    focus ((intro w hSw; (try dsimp only at hSw); go_simp) <;> (with_reducible rfl))
    try simp only [Act.put, List.setIfInBounds_toArray, List.set_cons_zero, List.set_cons_succ]
    refine wpAnyH_take (i := 28) (oi := { dst := some 58, op := Go.Op.move (Go.Operand.tmp 57), type := 4, pos := "law.go:133", after := #[{ on := 27, ground := Go.Ground.data }, { on := 25, ground := Go.Ground.chain }], guard := none }) (v := ?_) rfl (by kernel_rfl) (by kernel_rfl) (by kernel_rfl) (fun _ _ _ h => h) (Or.inl ⟨by rfl, ?_⟩) (by assumption) ?_
    rotate_left
    focus ((intro w hSw; (try dsimp only at hSw); go_simp) <;> (with_reducible rfl))
    try simp only [Act.put, List.setIfInBounds_toArray, List.set_cons_zero, List.set_cons_succ]
    refine wpAnyH_take (i := 29) (oi := { dst := some 59, op := Go.Op.load 24 (Go.Operand.tmp 8), type := 24, pos := "law.go:133", after := #[{ on := 28, ground := Go.Ground.guard }], guard := some (28, true) }) (v := ?_) rfl (by kernel_rfl) (by kernel_rfl) (by kernel_rfl) (fun _ _ _ h => h) (Or.inl ⟨by rfl, ?_⟩) (by assumption) ?_
    rotate_left
    focus ((intro w hSw; (try dsimp only at hSw); go_simp) <;> (with_reducible rfl))
    try simp only [Act.put, List.setIfInBounds_toArray, List.set_cons_zero, List.set_cons_succ]
    refine wpAnyH_take (i := 30) (oi := { dst := some 60, op := Go.Op.move (Go.Operand.tmp 2), type := 5, pos := "law.go:133", after := #[{ on := 28, ground := Go.Ground.guard }], guard := some (28, true) }) (v := ?_) rfl (by kernel_rfl) (by kernel_rfl) (by kernel_rfl) (fun _ _ _ h => h) (Or.inl ⟨by rfl, ?_⟩) (by assumption) ?_
    rotate_left
    focus ((intro w hSw; (try dsimp only at hSw); go_simp) <;> (with_reducible rfl))
    try simp only [Act.put, List.setIfInBounds_toArray, List.set_cons_zero, List.set_cons_succ]
    refine wpAnyH_take (i := 32) (oi := { dst := some 62, op := Go.Op.load 24 (Go.Operand.tmp 3), type := 24, pos := "law.go:133", after := #[{ on := 28, ground := Go.Ground.guard }], guard := some (28, true) }) (v := ?_) rfl (by kernel_rfl) (by kernel_rfl) (by kernel_rfl) (fun _ _ _ h => h) (Or.inl ⟨by rfl, ?_⟩) (by assumption) ?_
    rotate_left
    focus ((intro w hSw; (try dsimp only at hSw); go_simp) <;> (with_reducible rfl))
    try simp only [Act.put, List.setIfInBounds_toArray, List.set_cons_zero, List.set_cons_succ]
    refine wpAnyH_take (i := 33) (oi := { dst := some 63, op := Go.Op.move (Go.Operand.tmp 2), type := 5, pos := "law.go:133", after := #[{ on := 28, ground := Go.Ground.guard }], guard := some (28, true) }) (v := ?_) rfl (by kernel_rfl) (by kernel_rfl) (by kernel_rfl) (fun _ _ _ h => h) (Or.inl ⟨by rfl, ?_⟩) (by assumption) ?_
    rotate_left
    focus ((intro w hSw; (try dsimp only at hSw); go_simp) <;> (with_reducible rfl))
    try simp only [Act.put, List.setIfInBounds_toArray, List.set_cons_zero, List.set_cons_succ]
    refine wpAnyH_ready (rs := [31]) (by kernel_rfl) (by simp) ?_
    refine AllReadyH.cons (o := { dst := some 61, op := Go.Op.call { callee := Go.Callee.value (Go.Operand.func 10), args := #[Go.Operand.tmp 59, Go.Operand.tmp 60], argTypes := #[24, 5] }, type := 4, pos := "law.go:133", after := #[{ on := 29, ground := Go.Ground.data }, { on := 30, ground := Go.Ground.data }, { on := 28, ground := Go.Ground.chain }, { on := 28, ground := Go.Ground.guard }], guard := some (28, true) }) rfl (fun K hK => ?_) AllReadyH.nil
    go_simp
    (first | (go_at_call 14; refine (fold_any _ _ _ _ _).mono ?_; rintro e w' ⟨rfl, hb⟩; (first | rw [hff.out] | rw [hv.out] | rw [hg.out])) | (go_at_call 27; refine (union2_at ?_ ?_ ?_ ?_ ?_ ?_ ?_ ?_ _ _ (0, 0) ?_).mono ?_; rotate_left 8; (focus (repeat' (first | (with_reducible assumption) | (with_reducible refine heap_at ?_; go_size) | (with_reducible refine heap_up ?_) | (with_reducible refine heap_drew ?_) | (refine heap_belowS (wx := ?_) ?_ ?_; rotate_left 2; assumption)))); rintro e w' ⟨rfl, hb⟩; (first | rw [hfs.out] | rw [hu.out] | rw [hfg.out])) | (go_at_call 10; refine (has_any _ _ _ _ _ (by omega) (by omega) _).mono ?_; rintro e w' ⟨rfl, hb⟩; rw [Int.toNat_natCast]; (first | rw [h1.out] | rw [h2.out] | rw [h3.out])) | (go_at_call 40; refine (mod_any _ hq.out _).mono ?_; rintro e w' ⟨rfl, hb⟩))
    first | (go_wp2_with fail) | skip
    refine hK.out _ _ ?_ (fun hNew => ?_)
    focus ((try dsimp only); ((go_split_ands; refine held3s hN.out b1 b2 bf l1 l2 l3 ?_; have hN := hN.out; repeat' (first | (with_reducible assumption) | (with_reducible exact Below.refl _ _) | (with_reducible refine Below.drew ?_) | (with_reducible refine Below.allocS hN ?_) | (with_reducible refine Below.setCell ?_ ?_ _; rotate_left; ((try dsimp only); omega)) | (refine Below.transS (wx := ?_) hN ?_ ?_; rotate_left 2; assumption)))))
    clear hK K hHeld
    have hHeld := hNew
    clear hNew
    try simp only [Act.put, List.setIfInBounds_toArray, List.set_cons_zero, List.set_cons_succ]
    refine wpAnyH_ready (rs := [34]) (by kernel_rfl) (by simp) ?_
    refine AllReadyH.cons (o := { dst := some 64, op := Go.Op.call { callee := Go.Callee.value (Go.Operand.func 10), args := #[Go.Operand.tmp 62, Go.Operand.tmp 63], argTypes := #[24, 5] }, type := 4, pos := "law.go:133", after := #[{ on := 32, ground := Go.Ground.data }, { on := 33, ground := Go.Ground.data }, { on := 31, ground := Go.Ground.chain }, { on := 28, ground := Go.Ground.guard }], guard := some (28, true) }) rfl (fun K hK => ?_) AllReadyH.nil
    go_simp
    (first | (go_at_call 14; refine (fold_any _ _ _ _ _).mono ?_; rintro e w' ⟨rfl, hb⟩; (first | rw [hff.out] | rw [hv.out] | rw [hg.out])) | (go_at_call 27; refine (union2_at ?_ ?_ ?_ ?_ ?_ ?_ ?_ ?_ _ _ (0, 0) ?_).mono ?_; rotate_left 8; (focus (repeat' (first | (with_reducible assumption) | (with_reducible refine heap_at ?_; go_size) | (with_reducible refine heap_up ?_) | (with_reducible refine heap_drew ?_) | (refine heap_belowS (wx := ?_) ?_ ?_; rotate_left 2; assumption)))); rintro e w' ⟨rfl, hb⟩; (first | rw [hfs.out] | rw [hu.out] | rw [hfg.out])) | (go_at_call 10; refine (has_any _ _ _ _ _ (by omega) (by omega) _).mono ?_; rintro e w' ⟨rfl, hb⟩; rw [Int.toNat_natCast]; (first | rw [h1.out] | rw [h2.out] | rw [h3.out])) | (go_at_call 40; refine (mod_any _ hq.out _).mono ?_; rintro e w' ⟨rfl, hb⟩))
    first | (go_wp2_with fail) | skip
    refine hK.out _ _ ?_ (fun hNew => ?_)
    focus ((try dsimp only); ((go_split_ands; refine held3s hN.out b1 b2 bf l1 l2 l3 ?_; have hN := hN.out; repeat' (first | (with_reducible assumption) | (with_reducible exact Below.refl _ _) | (with_reducible refine Below.drew ?_) | (with_reducible refine Below.allocS hN ?_) | (with_reducible refine Below.setCell ?_ ?_ _; rotate_left; ((try dsimp only); omega)) | (refine Below.transS (wx := ?_) hN ?_ ?_; rotate_left 2; assumption)))))
    clear hK K hHeld
    have hHeld := hNew
    clear hNew
    try simp only [Act.put, List.setIfInBounds_toArray, List.set_cons_zero, List.set_cons_succ]
    refine wpAnyH_take (i := 35) (oi := { dst := some 65, op := Go.Op.move (Go.Operand.tmp 64), type := 4, pos := "law.go:133", after := #[{ on := 34, ground := Go.Ground.data }, { on := 34, ground := Go.Ground.chain }, { on := 28, ground := Go.Ground.guard }], guard := some (28, true) }) (v := ?_) rfl (by kernel_rfl) (by kernel_rfl) (by kernel_rfl) (fun _ _ _ h => h) (Or.inl ⟨by rfl, ?_⟩) (by assumption) ?_
    rotate_left
    focus ((intro w hSw; (try dsimp only at hSw); go_simp) <;> (with_reducible rfl))
    try simp only [Act.put, List.setIfInBounds_toArray, List.set_cons_zero, List.set_cons_succ]
    refine wpAnyH_take (i := 36) (oi := { dst := some 66, op := Go.Op.load 24 (Go.Operand.tmp 3), type := 24, pos := "law.go:133", after := #[{ on := 35, ground := Go.Ground.guard }], guard := some (35, false) }) (v := undef) rfl (by kernel_rfl) (by kernel_rfl) (by kernel_rfl) (fun _ _ _ h => h) (Or.inr ⟨by rfl, rfl⟩) (by assumption) ?_
    try simp only [Act.put, List.setIfInBounds_toArray, List.set_cons_zero, List.set_cons_succ]
    refine wpAnyH_take (i := 37) (oi := { dst := some 67, op := Go.Op.move (Go.Operand.tmp 9), type := 5, pos := "law.go:133", after := #[{ on := 35, ground := Go.Ground.guard }], guard := some (35, false) }) (v := undef) rfl (by kernel_rfl) (by kernel_rfl) (by kernel_rfl) (fun _ _ _ h => h) (Or.inr ⟨by rfl, rfl⟩) (by assumption) ?_
    try simp only [Act.put, List.setIfInBounds_toArray, List.set_cons_zero, List.set_cons_succ]
    refine wpAnyH_take (i := 38) (oi := { dst := some 68, op := Go.Op.call { callee := Go.Callee.value (Go.Operand.func 10), args := #[Go.Operand.tmp 66, Go.Operand.tmp 67], argTypes := #[24, 5] }, type := 4, pos := "law.go:133", after := #[{ on := 36, ground := Go.Ground.data }, { on := 37, ground := Go.Ground.data }, { on := 35, ground := Go.Ground.chain }, { on := 35, ground := Go.Ground.guard }], guard := some (35, false) }) (v := undef) rfl (by kernel_rfl) (by kernel_rfl) (by kernel_rfl) (fun _ _ _ h => h) (Or.inr ⟨by rfl, rfl⟩) (by assumption) ?_
    try simp only [Act.put, List.setIfInBounds_toArray, List.set_cons_zero, List.set_cons_succ]
    refine wpAnyH_take (i := 39) (oi := { dst := some 69, op := Go.Op.pick (Go.Operand.tmp 65) (Go.Operand.const (Go.Value.bool true)) (Go.Operand.tmp 68), type := 4, pos := "law.go:133", after := #[{ on := 35, ground := Go.Ground.data }, { on := 38, ground := Go.Ground.data }, { on := 28, ground := Go.Ground.guard }], guard := some (28, true) }) (v := ?_) rfl (by kernel_rfl) (by kernel_rfl) (by kernel_rfl) (fun _ _ _ h => h) (Or.inl ⟨by rfl, ?_⟩) (by assumption) ?_
    rotate_left
    focus ((intro w hSw; (try dsimp only at hSw); go_simp) <;> (with_reducible rfl))
    try simp only [Act.put, List.setIfInBounds_toArray, List.set_cons_zero, List.set_cons_succ]
    refine wpAnyH_take (i := 40) (oi := { dst := some 70, op := Go.Op.binOp Go.BinOp.eql 4 (Go.Operand.tmp 61) (Go.Operand.tmp 69) 4, type := 4, pos := "law.go:133", after := #[{ on := 31, ground := Go.Ground.data }, { on := 39, ground := Go.Ground.data }, { on := 28, ground := Go.Ground.guard }], guard := some (28, true) }) (v := ?_) rfl (by kernel_rfl) (by kernel_rfl) (by kernel_rfl) (fun _ _ _ h => h) (Or.inl ⟨by rfl, ?_⟩) (by assumption) ?_
    rotate_left
    focus ((intro w hSw; (try dsimp only at hSw); go_simp) <;> (with_reducible rfl))
    try simp only [Act.put, List.setIfInBounds_toArray, List.set_cons_zero, List.set_cons_succ]
    refine wpAnyH_take (i := 41) (oi := { dst := some 71, op := Go.Op.pick (Go.Operand.tmp 58) (Go.Operand.tmp 70) (Go.Operand.const (Go.Value.bool false)), type := 4, pos := "law.go:133", after := #[{ on := 28, ground := Go.Ground.data }, { on := 40, ground := Go.Ground.data }], guard := none }) (v := ?_) rfl (by kernel_rfl) (by kernel_rfl) (by kernel_rfl) (fun _ _ _ h => h) (Or.inl ⟨by rfl, ?_⟩) (by assumption) ?_
    rotate_left
    focus ((intro w hSw; (try dsimp only at hSw); go_simp) <;> (with_reducible rfl))
    try simp only [Act.put, List.setIfInBounds_toArray, List.set_cons_zero, List.set_cons_succ]
    refine wpAnyH_take (i := 42) (oi := { dst := some 72, op := Go.Op.move (Go.Operand.tmp 71), type := 4, pos := "law.go:133", after := #[{ on := 41, ground := Go.Ground.data }, { on := 38, ground := Go.Ground.chain }], guard := none }) (v := ?_) rfl (by kernel_rfl) (by kernel_rfl) (by kernel_rfl) (fun _ _ _ h => h) (Or.inl ⟨by rfl, ?_⟩) (by assumption) ?_
    rotate_left
    focus ((intro w hSw; (try dsimp only at hSw); go_simp) <;> (with_reducible rfl))
    try simp only [Act.put, List.setIfInBounds_toArray, List.set_cons_zero, List.set_cons_succ]
    refine wpAnyH_take (i := 43) (oi := { dst := some 73, op := Go.Op.move (Go.Operand.tmp 9), type := 5, pos := "law.go:133", after := #[{ on := 42, ground := Go.Ground.guard }], guard := some (42, true) }) (v := ?_) rfl (by kernel_rfl) (by kernel_rfl) (by kernel_rfl) (fun _ _ _ h => h) (Or.inl ⟨by rfl, ?_⟩) (by assumption) ?_
    rotate_left
    focus ((intro w hSw; (try dsimp only at hSw); go_simp) <;> (with_reducible rfl))
    try simp only [Act.put, List.setIfInBounds_toArray, List.set_cons_zero, List.set_cons_succ]
    refine wpAnyH_take (i := 44) (oi := { dst := some 74, op := Go.Op.convert 5 3 (Go.Operand.tmp 73), type := 3, pos := "law.go:133", after := #[{ on := 43, ground := Go.Ground.data }, { on := 42, ground := Go.Ground.guard }], guard := some (42, true) }) (v := ?_) rfl (by kernel_rfl) (by kernel_rfl) (by kernel_rfl) (fun _ _ _ h => h) (Or.inl ⟨by rfl, ?_⟩) (by assumption) ?_
    rotate_left
    focus ((intro w hSw; (try dsimp only at hSw); go_simp) <;> (with_reducible rfl))
    try simp only [Act.put, List.setIfInBounds_toArray, List.set_cons_zero, List.set_cons_succ]
    refine wpAnyH_take (i := 45) (oi := { dst := some 75, op := Go.Op.move (Go.Operand.tmp 2), type := 5, pos := "law.go:133", after := #[{ on := 42, ground := Go.Ground.guard }], guard := some (42, true) }) (v := ?_) rfl (by kernel_rfl) (by kernel_rfl) (by kernel_rfl) (fun _ _ _ h => h) (Or.inl ⟨by rfl, ?_⟩) (by assumption) ?_
    rotate_left
    focus ((intro w hSw; (try dsimp only at hSw); go_simp) <;> (with_reducible rfl))
    try simp only [Act.put, List.setIfInBounds_toArray, List.set_cons_zero, List.set_cons_succ]
    refine wpAnyH_take (i := 46) (oi := { dst := some 76, op := Go.Op.convert 5 3 (Go.Operand.tmp 75), type := 3, pos := "law.go:133", after := #[{ on := 45, ground := Go.Ground.data }, { on := 42, ground := Go.Ground.guard }], guard := some (42, true) }) (v := ?_) rfl (by kernel_rfl) (by kernel_rfl) (by kernel_rfl) (fun _ _ _ h => h) (Or.inl ⟨by rfl, ?_⟩) (by assumption) ?_
    rotate_left
    focus ((intro w hSw; (try dsimp only at hSw); go_simp) <;> (with_reducible rfl))
    try simp only [Act.put, List.setIfInBounds_toArray, List.set_cons_zero, List.set_cons_succ]
    refine wpAnyH_take (i := 47) (oi := { dst := some 77, op := Go.Op.binOp Go.BinOp.sub 3 (Go.Operand.tmp 74) (Go.Operand.tmp 76) 3, type := 3, pos := "law.go:133", after := #[{ on := 44, ground := Go.Ground.data }, { on := 46, ground := Go.Ground.data }, { on := 42, ground := Go.Ground.guard }], guard := some (42, true) }) (v := ?_) rfl (by kernel_rfl) (by kernel_rfl) (by kernel_rfl) (fun _ _ _ h => h) (Or.inl ⟨by rfl, ?_⟩) (by assumption) ?_
    rotate_left
    focus ((intro w hSw; (try dsimp only at hSw); go_simp) <;> (with_reducible rfl))
    try simp only [Act.put, List.setIfInBounds_toArray, List.set_cons_zero, List.set_cons_succ]
    refine wpAnyH_ready (rs := [48]) (by kernel_rfl) (by simp) ?_
    refine AllReadyH.cons (o := { dst := some 78, op := Go.Op.call { callee := Go.Callee.value (Go.Operand.func 40), args := #[Go.Operand.tmp 77, Go.Operand.const (Go.Value.int Go.IntKind.i64 32)], argTypes := #[3, 3] }, type := 3, pos := "law.go:133", after := #[{ on := 47, ground := Go.Ground.data }, { on := 42, ground := Go.Ground.chain }, { on := 42, ground := Go.Ground.guard }], guard := some (42, true) }) rfl (fun K hK => ?_) AllReadyH.nil
    go_simp
    (first | (go_at_call 14; refine (fold_any _ _ _ _ _).mono ?_; rintro e w' ⟨rfl, hb⟩; (first | rw [hff.out] | rw [hv.out] | rw [hg.out])) | (go_at_call 27; refine (union2_at ?_ ?_ ?_ ?_ ?_ ?_ ?_ ?_ _ _ (0, 0) ?_).mono ?_; rotate_left 8; (focus (repeat' (first | (with_reducible assumption) | (with_reducible refine heap_at ?_; go_size) | (with_reducible refine heap_up ?_) | (with_reducible refine heap_drew ?_) | (refine heap_belowS (wx := ?_) ?_ ?_; rotate_left 2; assumption)))); rintro e w' ⟨rfl, hb⟩; (first | rw [hfs.out] | rw [hu.out] | rw [hfg.out])) | (go_at_call 10; refine (has_any _ _ _ _ _ (by omega) (by omega) _).mono ?_; rintro e w' ⟨rfl, hb⟩; rw [Int.toNat_natCast]; (first | rw [h1.out] | rw [h2.out] | rw [h3.out])) | (go_at_call 40; refine (mod_any _ hq.out _).mono ?_; rintro e w' ⟨rfl, hb⟩))
    first | (go_wp2_with fail) | skip
    refine hK.out _ _ ?_ (fun hNew => ?_)
    focus ((try dsimp only); ((go_split_ands; refine held3s hN.out b1 b2 bf l1 l2 l3 ?_; have hN := hN.out; repeat' (first | (with_reducible assumption) | (with_reducible exact Below.refl _ _) | (with_reducible refine Below.drew ?_) | (with_reducible refine Below.allocS hN ?_) | (with_reducible refine Below.setCell ?_ ?_ _; rotate_left; ((try dsimp only); omega)) | (refine Below.transS (wx := ?_) hN ?_ ?_; rotate_left 2; assumption)))))
    clear hK K hHeld
    have hHeld := hNew
    clear hNew
    try simp only [Act.put, List.setIfInBounds_toArray, List.set_cons_zero, List.set_cons_succ]
    refine wpAnyH_take (i := 49) (oi := { dst := some 79, op := Go.Op.binOp Go.BinOp.eql 3 (Go.Operand.tmp 78) (Go.Operand.const (Go.Value.int Go.IntKind.i64 0)) 3, type := 4, pos := "law.go:133", after := #[{ on := 48, ground := Go.Ground.data }, { on := 42, ground := Go.Ground.guard }], guard := some (42, true) }) (v := ?_) rfl (by kernel_rfl) (by kernel_rfl) (by kernel_rfl) (fun _ _ _ h => h) (Or.inl ⟨by rfl, ?_⟩) (by assumption) ?_
    rotate_left
    focus ((intro w hSw; (try dsimp only at hSw); go_simp) <;> (with_reducible rfl))
    try simp only [Act.put, List.setIfInBounds_toArray, List.set_cons_zero, List.set_cons_succ]
    refine wpAnyH_take (i := 50) (oi := { dst := some 80, op := Go.Op.pick (Go.Operand.tmp 72) (Go.Operand.tmp 79) (Go.Operand.const (Go.Value.bool false)), type := 4, pos := "law.go:133", after := #[{ on := 42, ground := Go.Ground.data }, { on := 49, ground := Go.Ground.data }], guard := none }) (v := ?_) rfl (by kernel_rfl) (by kernel_rfl) (by kernel_rfl) (fun _ _ _ h => h) (Or.inl ⟨by rfl, ?_⟩) (by assumption) ?_
    rotate_left
    focus ((intro w hSw; (try dsimp only at hSw); go_simp) <;> (with_reducible rfl))
    try simp only [Act.put, List.setIfInBounds_toArray, List.set_cons_zero, List.set_cons_succ]
    refine wpAnyH_take (i := 51) (oi := { dst := some 6, op := Go.Op.assign (Go.Operand.tmp 80), type := 4, pos := "law.go:133", after := #[{ on := 50, ground := Go.Ground.data }, { on := 48, ground := Go.Ground.chain }, { on := 0, ground := Go.Ground.phase }, { on := 1, ground := Go.Ground.phase }, { on := 2, ground := Go.Ground.phase }, { on := 3, ground := Go.Ground.phase }, { on := 4, ground := Go.Ground.phase }, { on := 5, ground := Go.Ground.phase }, { on := 6, ground := Go.Ground.phase }, { on := 7, ground := Go.Ground.phase }, { on := 8, ground := Go.Ground.phase }, { on := 9, ground := Go.Ground.phase }, { on := 10, ground := Go.Ground.phase }, { on := 11, ground := Go.Ground.phase }, { on := 12, ground := Go.Ground.phase }, { on := 13, ground := Go.Ground.phase }, { on := 14, ground := Go.Ground.phase }, { on := 15, ground := Go.Ground.phase }, { on := 16, ground := Go.Ground.phase }, { on := 17, ground := Go.Ground.phase }, { on := 18, ground := Go.Ground.phase }, { on := 19, ground := Go.Ground.phase }, { on := 20, ground := Go.Ground.phase }, { on := 21, ground := Go.Ground.phase }, { on := 22, ground := Go.Ground.phase }, { on := 23, ground := Go.Ground.phase }, { on := 24, ground := Go.Ground.phase }, { on := 25, ground := Go.Ground.phase }, { on := 26, ground := Go.Ground.phase }, { on := 27, ground := Go.Ground.phase }, { on := 28, ground := Go.Ground.phase }, { on := 29, ground := Go.Ground.phase }, { on := 30, ground := Go.Ground.phase }, { on := 31, ground := Go.Ground.phase }, { on := 32, ground := Go.Ground.phase }, { on := 33, ground := Go.Ground.phase }, { on := 34, ground := Go.Ground.phase }, { on := 35, ground := Go.Ground.phase }, { on := 36, ground := Go.Ground.phase }, { on := 37, ground := Go.Ground.phase }, { on := 38, ground := Go.Ground.phase }, { on := 39, ground := Go.Ground.phase }, { on := 40, ground := Go.Ground.phase }, { on := 41, ground := Go.Ground.phase }, { on := 42, ground := Go.Ground.phase }, { on := 43, ground := Go.Ground.phase }, { on := 44, ground := Go.Ground.phase }, { on := 45, ground := Go.Ground.phase }, { on := 46, ground := Go.Ground.phase }, { on := 47, ground := Go.Ground.phase }, { on := 48, ground := Go.Ground.phase }, { on := 49, ground := Go.Ground.phase }, { on := 50, ground := Go.Ground.phase }], guard := none }) (v := ?_) rfl (by kernel_rfl) (by kernel_rfl) (by kernel_rfl) (fun _ _ _ h => h) (Or.inl ⟨by rfl, ?_⟩) (by assumption) ?_
    rotate_left
    focus ((intro w hSw; (try dsimp only at hSw); go_simp) <;> (with_reducible rfl))
    try simp only [Act.put, List.setIfInBounds_toArray, List.set_cons_zero, List.set_cons_succ]
    refine wpAnyH_done (by kernel_rfl) ?_ _
    refine NoPanic.normal ?_
    all_goals (go_wp2_with fail; go_ret; refine ⟨rfl, below_from hB hN.out ?_⟩; have hN := hN.out; repeat' (first | (with_reducible assumption) | (with_reducible exact Below.refl _ _) | (with_reducible refine Below.drew ?_) | (with_reducible refine Below.allocS hN ?_) | (with_reducible refine Below.setCell ?_ ?_ _; rotate_left; ((try dsimp only); omega)) | (refine Below.transS (wx := ?_) hN ?_ ?_; rotate_left 2; assumption)))
end Go.Proofs.YtbpnhiejmkeclaaDoor
