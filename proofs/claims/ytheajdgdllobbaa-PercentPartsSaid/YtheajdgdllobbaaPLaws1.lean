/-
  The laws PercentCuts and PercentReads return true for every text, set and number.
-/
import Derived.Test.YtheajdgdllobbaaPAwake
namespace Go.Proofs.Ytheajdgdllobbaa
open Go.RowKit
attribute [local go_sem] w_0 w_1 w_2 w_3
theorem cutV_shape (l : List UInt8) (n : Int) : ∃ (s : Array UInt8) (e : Int), cutV l n = .tuple #[.string ⟨s⟩, .int .i64 e] := by
  unfold cutV
  split
  · exact ⟨_, _, rfl⟩
  · exact ⟨_, _, rfl⟩
theorem offV_shape (l : List UInt8) (n : Int) : ∃ (k e : Int), offV l n = .tuple #[.int .i64 k, .int .i64 e] := by
  unfold offV
  split
  · split
    · split
      · exact ⟨_, _, rfl⟩
      · exact ⟨_, _, rfl⟩
    · exact ⟨_, _, rfl⟩
  · exact ⟨_, _, rfl⟩
set_option maxHeartbeats 2000000 in
theorem cuts_law (l : List UInt8) (n : Int) (w : World) :
    Calls Try.prog 5 #[.string ⟨l.toArray⟩, .int .i64 n] w fun e w' => e = .returned (.bool true) ∧ Below w.heap.size w w' := by
  by_cases hl : 500 < l.length
  · have h1 : decide ((500 : Int) < (l.length : Int)) = true := decide_eq_true (by omega)
    go_enter Try.func5, Try.ntmps5
    go_wp2_with fail
    refine (awake_any _).mono ?_
    rintro y w1 ⟨rfl, hb⟩
    go_wp2_with fail
    go_ret
    exact ⟨rfl, hb⟩
  · have h1 : decide ((500 : Int) < (l.length : Int)) = false := decide_eq_false (by omega)
    have hl2 : l.length < 1000000 := by omega
    obtain ⟨cs, ce, hc⟩ := cutV_shape l n
    obtain ⟨ok, oe, ho⟩ := offV_shape l n
    have HC := Lib.hid hc
    have HO := Lib.hid ho
    clear hc ho
    go_enter Try.func5, Try.ntmps5
    go_wp2_with fail
    refine (cut_any l hl2 n _).mono ?_
    rintro y w1 ⟨rfl, hB⟩
    rw [HC.out]
    go_wp2_with fail
    refine (refCut_any l hl2 n _).mono ?_
    rintro y w2 ⟨rfl, hb⟩
    rw [HC.out]
    have hB := hB.trans (hb.mono hB.size)
    clear hb
    go_wp2_with fail
    refine (offset_any l hl2 n _).mono ?_
    rintro y w3 ⟨rfl, hb⟩
    rw [HO.out]
    have hB := hB.trans (hb.mono hB.size)
    clear hb
    go_wp2_with fail
    refine (refOffset_any l hl2 n _).mono ?_
    rintro y w4 ⟨rfl, hb⟩
    rw [HO.out]
    have hB := hB.trans (hb.mono hB.size)
    clear hb
    go_wp2_with fail
    refine (awake_any _).mono ?_
    rintro y w5 ⟨rfl, hb⟩
    have hB := hB.trans (hb.mono hB.size)
    clear hb
    go_wp2_with fail
    go_ret
    exact ⟨rfl, hB⟩
theorem decV_shape (r : Except Nat (List UInt8)) : ∃ (s : Array UInt8) (e i : Int), decV r = .tuple #[.string ⟨s⟩, .agg #[.int .i64 e, .int .i64 i]] := by
  cases r
  · exact ⟨_, _, _, rfl⟩
  · exact ⟨_, _, _, rfl⟩
theorem canV_shape (s : WSet) (r : Except Nat (List UInt8)) : ∃ (x : Array UInt8) (e i : Int), canV s r = .tuple #[.string ⟨x⟩, .agg #[.int .i64 e, .int .i64 i]] := by
  cases r
  · exact ⟨_, _, _, rfl⟩
  · exact ⟨_, _, _, rfl⟩
theorem escsV_shape (l : List UInt8) (r : Except Nat (List UInt8)) : ∃ (k e i : Int), escsV l r = .tuple #[.int .i64 k, .agg #[.int .i64 e, .int .i64 i]] := by
  cases r
  · exact ⟨_, _, _, rfl⟩
  · exact ⟨_, _, _, rfl⟩
set_option maxRecDepth 100000 in
set_option maxHeartbeats 4000000 in
theorem reads_law (l : List UInt8) (a b c d : BitVec 64) (w : World) :
    Calls Try.prog 3 #[.string ⟨l.toArray⟩, .agg #[.int .u64 a.toNat, .int .u64 b.toNat, .int .u64 c.toNat, .int .u64 d.toNat]] w fun e w' => e = .returned (.bool true) ∧ Below w.heap.size w w' := by
  by_cases hl : 500 < l.length
  · have h1 : decide ((500 : Int) < (l.length : Int)) = true := decide_eq_true (by omega)
    go_enter Try.func3, Try.ntmps3
    go_wp2_with fail
    refine (awake_any _).mono ?_
    rintro y w1 ⟨rfl, hb⟩
    go_wp2_with fail
    go_ret
    exact ⟨rfl, ((Below.refl _ w).alloc (Nat.le_refl _) _).trans (hb.mono (by simp))⟩
  · have h1 : decide ((500 : Int) < (l.length : Int)) = false := decide_eq_false (by omega)
    have hl2 : l.length < 1000000 := by omega
    obtain ⟨ds, de, di, hd⟩ := decV_shape (decL l 0)
    obtain ⟨cs, ce, ci, hc⟩ := canV_shape ⟨a, b, c, d⟩ (decL l 0)
    obtain ⟨es, ee, ei, he⟩ := escsV_shape l (decL l 0)
    have HD := Lib.hid hd
    have HC := Lib.hid hc
    have HE := Lib.hid he
    clear hd hc he
    have a0 := Blk.new w ⟨a, b, c, d⟩
    have hB : Below w.heap.size w (w.alloc (.cells #[.int .u64 a.toNat, .int .u64 b.toNat, .int .u64 c.toNat, .int .u64 d.toNat] 24)) := by go_grown
    go_enter Try.func3, Try.ntmps3
    go_wp2_with fail
    refine (decode_any l hl2 _).mono ?_
    rintro y v1 ⟨rfl, hb⟩
    rw [HD.out]
    have a0 : Blk v1 w.heap.size ⟨a, b, c, d⟩ := a0.below hb a0.lt
    have hB := hB.trans (hb.mono hB.size)
    clear hb
    have F1 : FBlk (v1.alloc (.cells #[.int .i64 de, .int .i64 di] 28)) v1.heap.size de di := heap_alloc_new v1 _
    have a0 := a0.alloc (.cells #[.int .i64 de, .int .i64 di] 28)
    have hB := hB.alloc hB.size (.cells #[.int .i64 de, .int .i64 di] 28)
    go_wp2_with fail
    obtain ⟨A1, hA1⟩ : ∃ A, v1.heap.size = A := ⟨_, rfl⟩
    obtain ⟨W1, hW1⟩ : ∃ W, v1.alloc (.cells #[.int .i64 de, .int .i64 di] 28) = W := ⟨_, rfl⟩
    rw [hA1] at F1 ⊢
    rw [hW1] at hB F1 a0 ⊢
    clear hA1 hW1
    refine (refDecode_any l hl2 _).mono ?_
    rintro y v2 ⟨rfl, hb⟩
    rw [HD.out]
    have a0 : Blk v2 w.heap.size ⟨a, b, c, d⟩ := a0.below hb a0.lt
    have F1 : FBlk v2 A1 de di := (hb.block _ F1.lt).trans F1
    have hB := hB.trans (hb.mono hB.size)
    clear hb
    have F2 : FBlk (v2.alloc (.cells #[.int .i64 de, .int .i64 di] 28)) v2.heap.size de di := heap_alloc_new v2 _
    have a0 := a0.alloc (.cells #[.int .i64 de, .int .i64 di] 28)
    have F1 := F1.alloc (.cells #[.int .i64 de, .int .i64 di] 28)
    have hB := hB.alloc hB.size (.cells #[.int .i64 de, .int .i64 di] 28)
    obtain ⟨xa00, xa01, xa02, xa03⟩ := a0.cells
    go_wp2_with fail
    obtain ⟨A2, hA2⟩ : ∃ A, v2.heap.size = A := ⟨_, rfl⟩
    obtain ⟨W2, hW2⟩ : ∃ W, v2.alloc (.cells #[.int .i64 de, .int .i64 di] 28) = W := ⟨_, rfl⟩
    rw [hA2] at F2 ⊢
    rw [hW2] at hB F2 a0 F1 ⊢
    clear hA2 hW2
    clear xa00 xa01 xa02 xa03
    refine (canonical_any l hl2 a b c d _).mono ?_
    rintro y v3 ⟨rfl, hb⟩
    rw [HC.out]
    have a0 : Blk v3 w.heap.size ⟨a, b, c, d⟩ := a0.below hb a0.lt
    have F1 : FBlk v3 A1 de di := (hb.block _ F1.lt).trans F1
    have F2 : FBlk v3 A2 de di := (hb.block _ F2.lt).trans F2
    have hB := hB.trans (hb.mono hB.size)
    clear hb
    have F3 : FBlk (v3.alloc (.cells #[.int .i64 ce, .int .i64 ci] 28)) v3.heap.size ce ci := heap_alloc_new v3 _
    have a0 := a0.alloc (.cells #[.int .i64 ce, .int .i64 ci] 28)
    have F1 := F1.alloc (.cells #[.int .i64 ce, .int .i64 ci] 28)
    have F2 := F2.alloc (.cells #[.int .i64 ce, .int .i64 ci] 28)
    have hB := hB.alloc hB.size (.cells #[.int .i64 ce, .int .i64 ci] 28)
    obtain ⟨xa00, xa01, xa02, xa03⟩ := a0.cells
    go_wp2_with fail
    obtain ⟨A3, hA3⟩ : ∃ A, v3.heap.size = A := ⟨_, rfl⟩
    obtain ⟨W3, hW3⟩ : ∃ W, v3.alloc (.cells #[.int .i64 ce, .int .i64 ci] 28) = W := ⟨_, rfl⟩
    rw [hA3] at F3 ⊢
    rw [hW3] at hB F3 a0 F1 F2 ⊢
    clear hA3 hW3
    clear xa00 xa01 xa02 xa03
    refine (refCanonical_any l hl2 a b c d _).mono ?_
    rintro y v4 ⟨rfl, hb⟩
    rw [HC.out]
    have a0 : Blk v4 w.heap.size ⟨a, b, c, d⟩ := a0.below hb a0.lt
    have F1 : FBlk v4 A1 de di := (hb.block _ F1.lt).trans F1
    have F2 : FBlk v4 A2 de di := (hb.block _ F2.lt).trans F2
    have F3 : FBlk v4 A3 ce ci := (hb.block _ F3.lt).trans F3
    have hB := hB.trans (hb.mono hB.size)
    clear hb
    have F4 : FBlk (v4.alloc (.cells #[.int .i64 ce, .int .i64 ci] 28)) v4.heap.size ce ci := heap_alloc_new v4 _
    have a0 := a0.alloc (.cells #[.int .i64 ce, .int .i64 ci] 28)
    have F1 := F1.alloc (.cells #[.int .i64 ce, .int .i64 ci] 28)
    have F2 := F2.alloc (.cells #[.int .i64 ce, .int .i64 ci] 28)
    have F3 := F3.alloc (.cells #[.int .i64 ce, .int .i64 ci] 28)
    have hB := hB.alloc hB.size (.cells #[.int .i64 ce, .int .i64 ci] 28)
    go_wp2_with fail
    obtain ⟨A4, hA4⟩ : ∃ A, v4.heap.size = A := ⟨_, rfl⟩
    obtain ⟨W4, hW4⟩ : ∃ W, v4.alloc (.cells #[.int .i64 ce, .int .i64 ci] 28) = W := ⟨_, rfl⟩
    rw [hA4] at F4 ⊢
    rw [hW4] at hB F4 a0 F1 F2 F3 ⊢
    clear hA4 hW4
    refine (escapes_any l hl2 _).mono ?_
    rintro y v5 ⟨rfl, hb⟩
    rw [HE.out]
    have a0 : Blk v5 w.heap.size ⟨a, b, c, d⟩ := a0.below hb a0.lt
    have F1 : FBlk v5 A1 de di := (hb.block _ F1.lt).trans F1
    have F2 : FBlk v5 A2 de di := (hb.block _ F2.lt).trans F2
    have F3 : FBlk v5 A3 ce ci := (hb.block _ F3.lt).trans F3
    have F4 : FBlk v5 A4 ce ci := (hb.block _ F4.lt).trans F4
    have hB := hB.trans (hb.mono hB.size)
    clear hb
    have F5 : FBlk (v5.alloc (.cells #[.int .i64 ee, .int .i64 ei] 28)) v5.heap.size ee ei := heap_alloc_new v5 _
    have a0 := a0.alloc (.cells #[.int .i64 ee, .int .i64 ei] 28)
    have F1 := F1.alloc (.cells #[.int .i64 ee, .int .i64 ei] 28)
    have F2 := F2.alloc (.cells #[.int .i64 ee, .int .i64 ei] 28)
    have F3 := F3.alloc (.cells #[.int .i64 ee, .int .i64 ei] 28)
    have F4 := F4.alloc (.cells #[.int .i64 ee, .int .i64 ei] 28)
    have hB := hB.alloc hB.size (.cells #[.int .i64 ee, .int .i64 ei] 28)
    go_wp2_with fail
    obtain ⟨A5, hA5⟩ : ∃ A, v5.heap.size = A := ⟨_, rfl⟩
    obtain ⟨W5, hW5⟩ : ∃ W, v5.alloc (.cells #[.int .i64 ee, .int .i64 ei] 28) = W := ⟨_, rfl⟩
    rw [hA5] at F5 ⊢
    rw [hW5] at hB F5 a0 F1 F2 F3 F4 ⊢
    clear hA5 hW5
    refine (refEscapes_any l hl2 _).mono ?_
    rintro y v6 ⟨rfl, hb⟩
    rw [HE.out]
    have a0 : Blk v6 w.heap.size ⟨a, b, c, d⟩ := a0.below hb a0.lt
    have F1 : FBlk v6 A1 de di := (hb.block _ F1.lt).trans F1
    have F2 : FBlk v6 A2 de di := (hb.block _ F2.lt).trans F2
    have F3 : FBlk v6 A3 ce ci := (hb.block _ F3.lt).trans F3
    have F4 : FBlk v6 A4 ce ci := (hb.block _ F4.lt).trans F4
    have F5 : FBlk v6 A5 ee ei := (hb.block _ F5.lt).trans F5
    have hB := hB.trans (hb.mono hB.size)
    clear hb
    have F6 : FBlk (v6.alloc (.cells #[.int .i64 ee, .int .i64 ei] 28)) v6.heap.size ee ei := heap_alloc_new v6 _
    have a0 := a0.alloc (.cells #[.int .i64 ee, .int .i64 ei] 28)
    have F1 := F1.alloc (.cells #[.int .i64 ee, .int .i64 ei] 28)
    have F2 := F2.alloc (.cells #[.int .i64 ee, .int .i64 ei] 28)
    have F3 := F3.alloc (.cells #[.int .i64 ee, .int .i64 ei] 28)
    have F4 := F4.alloc (.cells #[.int .i64 ee, .int .i64 ei] 28)
    have F5 := F5.alloc (.cells #[.int .i64 ee, .int .i64 ei] 28)
    have hB := hB.alloc hB.size (.cells #[.int .i64 ee, .int .i64 ei] 28)
    obtain ⟨xF10, xF11, -, -⟩ := F1.cells
    obtain ⟨xF20, xF21, -, -⟩ := F2.cells
    obtain ⟨xF30, xF31, -, -⟩ := F3.cells
    obtain ⟨xF40, xF41, -, -⟩ := F4.cells
    obtain ⟨xF50, xF51, -, -⟩ := F5.cells
    obtain ⟨xF60, xF61, -, -⟩ := F6.cells
    go_wp2_with fail
    obtain ⟨A6, hA6⟩ : ∃ A, v6.heap.size = A := ⟨_, rfl⟩
    obtain ⟨W6, hW6⟩ : ∃ W, v6.alloc (.cells #[.int .i64 ee, .int .i64 ei] 28) = W := ⟨_, rfl⟩
    rw [hA6] at F6 ⊢
    rw [hW6] at hB F6 a0 F1 F2 F3 F4 F5 ⊢
    clear hA6 hW6
    clear xF10 xF11
    clear xF20 xF21
    clear xF30 xF31
    clear xF40 xF41
    clear xF50 xF51
    clear xF60 xF61
    refine (awake_any _).mono ?_
    rintro y v7 ⟨rfl, hb⟩
    have a0 : Blk v7 w.heap.size ⟨a, b, c, d⟩ := a0.below hb a0.lt
    have F1 : FBlk v7 A1 de di := (hb.block _ F1.lt).trans F1
    have F2 : FBlk v7 A2 de di := (hb.block _ F2.lt).trans F2
    have F3 : FBlk v7 A3 ce ci := (hb.block _ F3.lt).trans F3
    have F4 : FBlk v7 A4 ce ci := (hb.block _ F4.lt).trans F4
    have F5 : FBlk v7 A5 ee ei := (hb.block _ F5.lt).trans F5
    have F6 : FBlk v7 A6 ee ei := (hb.block _ F6.lt).trans F6
    have hB := hB.trans (hb.mono hB.size)
    clear hb
    go_wp2_with fail
    go_ret
    exact ⟨rfl, hB⟩
end Go.Proofs.Ytheajdgdllobbaa
