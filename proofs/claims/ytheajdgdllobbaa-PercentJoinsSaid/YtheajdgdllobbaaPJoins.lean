/-
  The law PercentJoins returns true for every two texts and every set.
-/
import Derived.Test.YtheajdgdllobbaaPKnown
import Derived.Test.YtheajdgdllobbaaPJoinF
namespace Go.Proofs.Ytheajdgdllobbaa
open Go.RowKit
attribute [local go_sem] ba_get w_0 w_1 w_2 w_3
set_option maxRecDepth 100000 in
set_option maxHeartbeats 8000000 in
theorem joins_law (x y : List UInt8) (a b c d : BitVec 64) (w : World) :
    Calls Try.prog 8 #[.string ⟨x.toArray⟩, .string ⟨y.toArray⟩, .agg #[.int .u64 a.toNat, .int .u64 b.toNat, .int .u64 c.toNat, .int .u64 d.toNat]] w fun e w' => e = .returned (.bool true) ∧ Below w.heap.size w w' := by
  have a0 := Blk.new w ⟨a, b, c, d⟩
  have hB : Below w.heap.size w (w.alloc (.cells #[.int .u64 a.toNat, .int .u64 b.toNat, .int .u64 c.toNat, .int .u64 d.toNat] 24)) := by go_grown
  have hs : (200 < x.length ∨ (x.length ≤ 200 ∧ 200 < y.length)) ∨ (x.length ≤ 200 ∧ y.length ≤ 200) := by omega
  rcases hs with hs | ⟨hx, hy⟩
  · rcases hs with h | ⟨h, h'⟩
    · have h1 : decide ((200 : Int) < (x.length : Int)) = true := decide_eq_true (by omega)
      go_enter Try.func8, Try.ntmps8
      go_wp2_with fail
      refine (known_law _).mono ?_
      rintro y w1 ⟨rfl, hb⟩
      go_wp2_with fail
      go_ret
      exact ⟨rfl, hB.trans (hb.mono hB.size)⟩
    · have h1 : decide ((200 : Int) < (x.length : Int)) = false := decide_eq_false (by omega)
      have h2 : decide ((200 : Int) < (y.length : Int)) = true := decide_eq_true (by omega)
      go_enter Try.func8, Try.ntmps8
      go_wp2_with fail
      refine (known_law _).mono ?_
      rintro y w1 ⟨rfl, hb⟩
      go_wp2_with fail
      go_ret
      exact ⟨rfl, hB.trans (hb.mono hB.size)⟩
  · have h1 : decide ((200 : Int) < (x.length : Int)) = false := decide_eq_false (by omega)
    have h2 : decide ((200 : Int) < (y.length : Int)) = false := decide_eq_false (by omega)
    have hx1 : x.length < 1000000 := by omega
    have hy1 : y.length < 1000000 := by omega
    have hl1 := encL_length ⟨a, b, c, d⟩ x
    have hl2 := encL_length ⟨a, b, c, d⟩ y
    have happ := encL_app ⟨a, b, c, d⟩ x y
    obtain ⟨T1, HT1⟩ : ∃ T, Hid (encL ⟨a, b, c, d⟩ x = T) := ⟨_, Lib.hid rfl⟩
    obtain ⟨T2, HT2⟩ : ∃ T, Hid (encL ⟨a, b, c, d⟩ y = T) := ⟨_, Lib.hid rfl⟩
    rw [HT1.out] at hl1
    rw [HT2.out] at hl2
    rw [HT1.out, HT2.out] at happ
    have HT3 := Lib.hid happ
    clear happ
    have s1 : ∀ w, (Op.stringOp .add ⟨x.toArray⟩ ⟨y.toArray⟩).run Try.prog w = .ok (.string ⟨(x ++ y).toArray⟩) w := fun w => str_add _ _ (by unfold Small; omega)
    have s2 : ∀ w, (Op.stringOp .add ⟨T1.toArray⟩ ⟨T2.toArray⟩).run Try.prog w = .ok (.string ⟨(T1 ++ T2).toArray⟩) w := fun w => str_add _ _ (by unfold Small; omega)
    go_enter Try.func8, Try.ntmps8
    go_wp2_with fail
    refine (known_law _).mono ?_
    rintro z v0 ⟨rfl, hb⟩
    have a0 : Blk v0 w.heap.size ⟨a, b, c, d⟩ := a0.below hb a0.lt
    have hB := hB.trans (hb.mono hB.size)
    clear hb
    have l1 := a0.lt
    go_upto_region 4 with fail
    obtain ⟨N, hN⟩ : ∃ N, Hid (v0.heap.size = N) := ⟨_, Lib.hid rfl⟩
    go_cut [34] (fun p wx => p = .bool false ∧ Below v0.heap.size v0 wx)
    case first =>
      go_region_held3 (fun wx => Below N v0 wx ∧ wx.cell? ⟨w.heap.size, 0, none⟩ = some (.int .u64 (a.toNat : Int)) ∧ wx.cell? ⟨w.heap.size, 1, none⟩ = some (.int .u64 (b.toNat : Int)) ∧ wx.cell? ⟨w.heap.size, 2, none⟩ = some (.int .u64 (c.toNat : Int)) ∧ wx.cell? ⟨w.heap.size, 3, none⟩ = some (.int .u64 (d.toNat : Int)))
        ((go_split_ands; refine held1 hN.out a0 l1 ?_; have hN := hN.out; repeat' (first | (with_reducible assumption) | (with_reducible exact Below.refl _ _) | (with_reducible refine Below.drew ?_) | (refine Below.transS (wx := ?_) hN ?_ ?_; rotate_left 2; assumption))))
        (first
        | (go_at_call 17; refine (encode_any _ (by first | omega | (simp; omega)) a b c d _).mono ?_; rintro e w' ⟨rfl, hb⟩; first | rw [HT1.out] | rw [HT2.out] | rw [HT3.out]))
      all_goals (go_wp2_with fail; go_meet; refine ⟨by first | rfl | simp, below_eq hN.out ?_⟩; have hN := hN.out; repeat' (first | (with_reducible assumption) | (with_reducible exact Below.refl _ _) | (with_reducible refine Below.drew ?_) | (refine Below.transS (wx := ?_) hN ?_ ?_; rotate_left 2; assumption)))
    case rest =>
    obtain ⟨rfl, hb⟩ := hcut
    have a0 := a0.below hb a0.lt
    have hB := hB.trans (hb.mono hB.size)
    clear hb hN l1 s2 HT3
    cases hdx : decL x 0 with
    | error i =>
      obtain ⟨ds, de, di, hd⟩ := decV_shape (decL y 0)
      have HX : Hid (decV (decL x 0) = .tuple #[.string ⟨#[]⟩, .agg #[.int .i64 3, .int .i64 i]]) := Lib.hid (by rw [hdx]; rfl)
      have HY := Lib.hid hd
      clear hdx hd s1
      go_wp2_with fail
      refine (decode_any x hx1 _).mono ?_
      rintro y v11 ⟨rfl, hb⟩
      rw [HX.out]
      have a0 : Blk v11 w.heap.size ⟨a, b, c, d⟩ := a0.below hb a0.lt
      have hB := hB.trans (hb.mono hB.size)
      clear hb
      have F1 : FBlk (v11.alloc (.cells #[.int .i64 3, .int .i64 i] 28)) v11.heap.size 3 i := heap_alloc_new v11 _
      have a0 := a0.alloc (.cells #[.int .i64 3, .int .i64 i] 28)
      have hB := hB.alloc hB.size (.cells #[.int .i64 3, .int .i64 i] 28)
      go_wp2_with fail
      obtain ⟨A11, hA11⟩ : ∃ A, v11.heap.size = A := ⟨_, rfl⟩
      obtain ⟨W11, hW11⟩ : ∃ W, v11.alloc (.cells #[.int .i64 3, .int .i64 i] 28) = W := ⟨_, rfl⟩
      rw [hA11] at F1 ⊢
      rw [hW11] at hB F1 a0 ⊢
      clear hA11 hW11
      refine (decode_any y hy1 _).mono ?_
      rintro y v12 ⟨rfl, hb⟩
      rw [HY.out]
      have a0 : Blk v12 w.heap.size ⟨a, b, c, d⟩ := a0.below hb a0.lt
      have F1 : FBlk v12 A11 3 i := (hb.block _ F1.lt).trans F1
      have hB := hB.trans (hb.mono hB.size)
      clear hb
      have F2 : FBlk (v12.alloc (.cells #[.int .i64 de, .int .i64 di] 28)) v12.heap.size de di := heap_alloc_new v12 _
      have a0 := a0.alloc (.cells #[.int .i64 de, .int .i64 di] 28)
      have F1 := F1.alloc (.cells #[.int .i64 de, .int .i64 di] 28)
      have hB := hB.alloc hB.size (.cells #[.int .i64 de, .int .i64 di] 28)
      obtain ⟨xF10, xF11, -, -⟩ := F1.cells
      go_wp2_with fail
      obtain ⟨A12, hA12⟩ : ∃ A, v12.heap.size = A := ⟨_, rfl⟩
      obtain ⟨W12, hW12⟩ : ∃ W, v12.alloc (.cells #[.int .i64 de, .int .i64 di] 28) = W := ⟨_, rfl⟩
      rw [hA12] at F2 ⊢
      rw [hW12] at hB F2 a0 F1 ⊢
      clear hA12 hW12
      clear xF10 xF11
      go_ret
      exact ⟨rfl, hB⟩
    | ok p =>
      have HX : Hid (decV (decL x 0) = .tuple #[.string ⟨p.toArray⟩, .agg #[.int .i64 0, .int .i64 0]]) := Lib.hid (by rw [hdx]; rfl)
      have hpl := decL_length hdx
      cases hdy : decL y 0 with
      | error i =>
        have HY : Hid (decV (decL y 0) = .tuple #[.string ⟨#[]⟩, .agg #[.int .i64 3, .int .i64 i]]) := Lib.hid (by rw [hdy]; rfl)
        clear hdx hdy s1
        go_wp2_with fail
        refine (decode_any x hx1 _).mono ?_
        rintro y v11 ⟨rfl, hb⟩
        rw [HX.out]
        have a0 : Blk v11 w.heap.size ⟨a, b, c, d⟩ := a0.below hb a0.lt
        have hB := hB.trans (hb.mono hB.size)
        clear hb
        have F1 : FBlk (v11.alloc (.cells #[.int .i64 0, .int .i64 0] 28)) v11.heap.size 0 0 := heap_alloc_new v11 _
        have a0 := a0.alloc (.cells #[.int .i64 0, .int .i64 0] 28)
        have hB := hB.alloc hB.size (.cells #[.int .i64 0, .int .i64 0] 28)
        go_wp2_with fail
        obtain ⟨A11, hA11⟩ : ∃ A, v11.heap.size = A := ⟨_, rfl⟩
        obtain ⟨W11, hW11⟩ : ∃ W, v11.alloc (.cells #[.int .i64 0, .int .i64 0] 28) = W := ⟨_, rfl⟩
        rw [hA11] at F1 ⊢
        rw [hW11] at hB F1 a0 ⊢
        clear hA11 hW11
        refine (decode_any y hy1 _).mono ?_
        rintro y v12 ⟨rfl, hb⟩
        rw [HY.out]
        have a0 : Blk v12 w.heap.size ⟨a, b, c, d⟩ := a0.below hb a0.lt
        have F1 : FBlk v12 A11 0 0 := (hb.block _ F1.lt).trans F1
        have hB := hB.trans (hb.mono hB.size)
        clear hb
        have F2 : FBlk (v12.alloc (.cells #[.int .i64 3, .int .i64 i] 28)) v12.heap.size 3 i := heap_alloc_new v12 _
        have a0 := a0.alloc (.cells #[.int .i64 3, .int .i64 i] 28)
        have F1 := F1.alloc (.cells #[.int .i64 3, .int .i64 i] 28)
        have hB := hB.alloc hB.size (.cells #[.int .i64 3, .int .i64 i] 28)
        obtain ⟨xF10, xF11, -, -⟩ := F1.cells
        go_wp2_with fail
        obtain ⟨A12, hA12⟩ : ∃ A, v12.heap.size = A := ⟨_, rfl⟩
        obtain ⟨W12, hW12⟩ : ∃ W, v12.alloc (.cells #[.int .i64 3, .int .i64 i] 28) = W := ⟨_, rfl⟩
        rw [hA12] at F2 ⊢
        rw [hW12] at hB F2 a0 F1 ⊢
        clear hA12 hW12
        clear xF10 xF11
        go_ret
        exact ⟨rfl, hB⟩
      | ok q =>
        have HY : Hid (decV (decL y 0) = .tuple #[.string ⟨q.toArray⟩, .agg #[.int .i64 0, .int .i64 0]]) := Lib.hid (by rw [hdy]; rfl)
        have hql := decL_length hdy
        have HS : Hid (saysB (x ++ y) (p ++ q) = true) := Lib.hid (by unfold saysB; rw [dec_both hdx hdy]; simp)
        obtain ⟨E, HE⟩ : ∃ E, Hid (encL ⟨a, b, c, d⟩ p = E) := ⟨_, Lib.hid rfl⟩
        obtain ⟨r, hr⟩ : ∃ r, (E == x) = r := ⟨_, rfl⟩
        have HI : Hid (isB ⟨a, b, c, d⟩ x = r) := Lib.hid (by unfold isB; rw [hdx]; simp only []; rw [HE.out, hr])
        have hr2 : (r == r) = true := by simp
        have s3 : ∀ w, (Op.stringOp .add ⟨p.toArray⟩ ⟨q.toArray⟩).run Try.prog w = .ok (.string ⟨(p ++ q).toArray⟩) w := fun w => str_add _ _ (by unfold Small; omega)
        clear hdx hdy
        go_wp2_with fail
        refine (decode_any x hx1 _).mono ?_
        rintro y v11 ⟨rfl, hb⟩
        rw [HX.out]
        have a0 : Blk v11 w.heap.size ⟨a, b, c, d⟩ := a0.below hb a0.lt
        have hB := hB.trans (hb.mono hB.size)
        clear hb
        have F1 : FBlk (v11.alloc (.cells #[.int .i64 0, .int .i64 0] 28)) v11.heap.size 0 0 := heap_alloc_new v11 _
        have a0 := a0.alloc (.cells #[.int .i64 0, .int .i64 0] 28)
        have hB := hB.alloc hB.size (.cells #[.int .i64 0, .int .i64 0] 28)
        go_wp2_with fail
        obtain ⟨A11, hA11⟩ : ∃ A, v11.heap.size = A := ⟨_, rfl⟩
        obtain ⟨W11, hW11⟩ : ∃ W, v11.alloc (.cells #[.int .i64 0, .int .i64 0] 28) = W := ⟨_, rfl⟩
        rw [hA11] at F1 ⊢
        rw [hW11] at hB F1 a0 ⊢
        clear hA11 hW11
        refine (decode_any y hy1 _).mono ?_
        rintro y v12 ⟨rfl, hb⟩
        rw [HY.out]
        have a0 : Blk v12 w.heap.size ⟨a, b, c, d⟩ := a0.below hb a0.lt
        have F1 : FBlk v12 A11 0 0 := (hb.block _ F1.lt).trans F1
        have hB := hB.trans (hb.mono hB.size)
        clear hb
        have F2 : FBlk (v12.alloc (.cells #[.int .i64 0, .int .i64 0] 28)) v12.heap.size 0 0 := heap_alloc_new v12 _
        have a0 := a0.alloc (.cells #[.int .i64 0, .int .i64 0] 28)
        have F1 := F1.alloc (.cells #[.int .i64 0, .int .i64 0] 28)
        have hB := hB.alloc hB.size (.cells #[.int .i64 0, .int .i64 0] 28)
        obtain ⟨xF10, xF11, -, -⟩ := F1.cells
        go_wp2_with fail
        obtain ⟨A12, hA12⟩ : ∃ A, v12.heap.size = A := ⟨_, rfl⟩
        obtain ⟨W12, hW12⟩ : ∃ W, v12.alloc (.cells #[.int .i64 0, .int .i64 0] 28) = W := ⟨_, rfl⟩
        rw [hA12] at F2 ⊢
        rw [hW12] at hB F2 a0 F1 ⊢
        clear hA12 hW12
        clear xF10 xF11
        go_upto_region 10 with fail
        have l1 := a0.lt
        obtain ⟨N, hN⟩ : ∃ N, Hid (W12.heap.size = N) := ⟨_, Lib.hid rfl⟩
        go_cut [6] (fun p wx => p = .bool true ∧ Below W12.heap.size W12 wx)
        case first =>
          go_region_held3 (fun wx => Below N W12 wx ∧ wx.cell? ⟨w.heap.size, 0, none⟩ = some (.int .u64 (a.toNat : Int)) ∧ wx.cell? ⟨w.heap.size, 1, none⟩ = some (.int .u64 (b.toNat : Int)) ∧ wx.cell? ⟨w.heap.size, 2, none⟩ = some (.int .u64 (c.toNat : Int)) ∧ wx.cell? ⟨w.heap.size, 3, none⟩ = some (.int .u64 (d.toNat : Int)))
            ((go_split_ands; refine held1 hN.out a0 l1 ?_; have hN := hN.out; repeat' (first | (with_reducible assumption) | (with_reducible exact Below.refl _ _) | (with_reducible refine Below.drew ?_) | (refine Below.transS (wx := ?_) hN ?_ ?_; rotate_left 2; assumption))))
            (first
          | (go_at_call 28; refine (says_any _ _ (by simp; omega) _).mono ?_; rintro e w' ⟨rfl, hb⟩; rw [HS.out])
          | (go_at_call 21; refine (is_any _ (by omega) a b c d _).mono ?_; rintro e w' ⟨rfl, hb⟩; rw [HI.out])
          | (go_at_call 17; refine (encode_any _ (by omega) a b c d _).mono ?_; rintro e w' ⟨rfl, hb⟩; rw [HE.out]))
          all_goals (go_wp2_with fail; go_meet; refine ⟨by first | rfl | simp, below_eq hN.out ?_⟩; have hN := hN.out; repeat' (first | (with_reducible assumption) | (with_reducible exact Below.refl _ _) | (with_reducible refine Below.drew ?_) | (refine Below.transS (wx := ?_) hN ?_ ?_; rotate_left 2; assumption)))
        case rest =>
        obtain ⟨rfl, hb⟩ := hcut
        have hB := hB.trans (hb.mono hB.size)
        go_wp2_with fail
        go_ret
        exact ⟨rfl, hB⟩
end Go.Proofs.Ytheajdgdllobbaa
