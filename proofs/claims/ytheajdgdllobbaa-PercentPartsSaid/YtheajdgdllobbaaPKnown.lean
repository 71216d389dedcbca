/-
  The law PercentKnown returns true.
-/
import Derived.Test.YtheajdgdllobbaaPLaws1
namespace Go.Proofs.Ytheajdgdllobbaa
open Go.RowKit
attribute [local go_sem] w_0 w_1 w_2 w_3
theorem k1 : decV (decL [37, 52, 103] 0) = .tuple #[.string ⟨#[]⟩, .agg #[.int .i64 3, .int .i64 0]] := by kernel_rfl
theorem k2 : decV (decL [37, 37, 52, 49] 0) = .tuple #[.string ⟨#[]⟩, .agg #[.int .i64 3, .int .i64 0]] := by kernel_rfl
theorem k3 : canV lettersW (decL [37, 54, 49, 37, 50, 70, 43] 0) = .tuple #[.string ⟨#[97, 47, 37, 50, 66]⟩, .agg #[.int .i64 0, .int .i64 0]] := by kernel_rfl
theorem k4 : canV lettersW (decL [37] 0) = .tuple #[.string ⟨#[]⟩, .agg #[.int .i64 3, .int .i64 0]] := by kernel_rfl
theorem k5 : escsV [97, 37, 50, 48, 37, 52, 49] (decL [97, 37, 50, 48, 37, 52, 49] 0) = .tuple #[.int .i64 2, .agg #[.int .i64 0, .int .i64 0]] := by kernel_rfl
theorem k6 : cutV [97, 37, 50, 48, 98] 3 = .tuple #[.string ⟨#[97]⟩, .int .i64 0] := by kernel_rfl
theorem k7 : cutV [97, 37, 50, 48, 98] (-1) = .tuple #[.string ⟨#[]⟩, .int .i64 2] := by kernel_rfl
theorem k8 : cutV [97, 37] 9 = .tuple #[.string ⟨#[]⟩, .int .i64 3] := by kernel_rfl
theorem k9 : offV [97, 37, 50, 48, 98] 0 = .tuple #[.int .i64 0, .int .i64 0] := by kernel_rfl
theorem k10 : offV [97, 37, 50, 48, 98] 3 = .tuple #[.int .i64 5, .int .i64 0] := by kernel_rfl
theorem k11 : offV [97, 37, 50, 48, 98] 4 = .tuple #[.int .i64 0, .int .i64 2] := by kernel_rfl
theorem k12 : (encL lettersW [97, 47, 98, 32, 99, 37]).length = 10 := by decide +kernel
theorem k13 : encL lettersW [65] = [37, 52, 49] := by decide +kernel
theorem k14 : isB lettersW [97, 37, 50, 70, 98] = false := by decide +kernel
theorem k15 : isB lettersW [97, 37, 50, 102] = false := by decide +kernel
set_option maxRecDepth 100000 in
set_option maxHeartbeats 8000000 in
theorem known_law (w : World) :
    Calls Try.prog 6 #[] w fun e w' => e = .returned (.bool true) ∧ Below w.heap.size w w' := by
  go_enter Try.func6, Try.ntmps6
  go_wp2_with fail
  refine (decode_any [37, 52, 103] (by decide) _).mono ?_
  rintro y v1 ⟨rfl, hb⟩
  rw [k1]
  have hB := hb
  clear hb
  have F1 : FBlk (v1.alloc (.cells #[.int .i64 3, .int .i64 0] 28)) v1.heap.size 3 0 := heap_alloc_new v1 _
  have hB := hB.alloc hB.size (.cells #[.int .i64 3, .int .i64 0] 28)
  go_wp2_with fail
  obtain ⟨A1, hA1⟩ : ∃ A, v1.heap.size = A := ⟨_, rfl⟩
  obtain ⟨W1, hW1⟩ : ∃ W, v1.alloc (.cells #[.int .i64 3, .int .i64 0] 28) = W := ⟨_, rfl⟩
  rw [hA1] at F1 ⊢
  rw [hW1] at hB F1  ⊢
  clear hA1 hW1
  refine (decode_any [37, 37, 52, 49] (by decide) _).mono ?_
  rintro y v2 ⟨rfl, hb⟩
  rw [k2]
  have F1 : FBlk v2 A1 3 0 := (hb.block _ F1.lt).trans F1
  have hB := hB.trans (hb.mono hB.size)
  clear hb
  have F2 : FBlk (v2.alloc (.cells #[.int .i64 3, .int .i64 0] 28)) v2.heap.size 3 0 := heap_alloc_new v2 _
  have F1 := F1.alloc (.cells #[.int .i64 3, .int .i64 0] 28)
  have hB := hB.alloc hB.size (.cells #[.int .i64 3, .int .i64 0] 28)
  go_wp2_with fail
  obtain ⟨A2, hA2⟩ : ∃ A, v2.heap.size = A := ⟨_, rfl⟩
  obtain ⟨W2, hW2⟩ : ∃ W, v2.alloc (.cells #[.int .i64 3, .int .i64 0] 28) = W := ⟨_, rfl⟩
  rw [hA2] at F2 ⊢
  rw [hW2] at hB F2 F1 ⊢
  clear hA2 hW2
  refine (letters_any _).mono ?_
  rintro y v3 ⟨rfl, hb⟩
  have F1 : FBlk v3 A1 3 0 := (hb.block _ F1.lt).trans F1
  have F2 : FBlk v3 A2 3 0 := (hb.block _ F2.lt).trans F2
  have hB := hB.trans (hb.mono hB.size)
  clear hb
  go_wp2_with fail
  refine (canonical_any [37, 54, 49, 37, 50, 70, 43] (by decide) lettersW.a lettersW.b lettersW.c lettersW.d _).mono ?_
  rintro y v4 ⟨rfl, hb⟩
  rw [show (WSet.mk lettersW.a lettersW.b lettersW.c lettersW.d) = lettersW from rfl, k3]
  have F1 : FBlk v4 A1 3 0 := (hb.block _ F1.lt).trans F1
  have F2 : FBlk v4 A2 3 0 := (hb.block _ F2.lt).trans F2
  have hB := hB.trans (hb.mono hB.size)
  clear hb
  have F3 : FBlk (v4.alloc (.cells #[.int .i64 0, .int .i64 0] 28)) v4.heap.size 0 0 := heap_alloc_new v4 _
  have F1 := F1.alloc (.cells #[.int .i64 0, .int .i64 0] 28)
  have F2 := F2.alloc (.cells #[.int .i64 0, .int .i64 0] 28)
  have hB := hB.alloc hB.size (.cells #[.int .i64 0, .int .i64 0] 28)
  go_wp2_with fail
  obtain ⟨A4, hA4⟩ : ∃ A, v4.heap.size = A := ⟨_, rfl⟩
  obtain ⟨W4, hW4⟩ : ∃ W, v4.alloc (.cells #[.int .i64 0, .int .i64 0] 28) = W := ⟨_, rfl⟩
  rw [hA4] at F3 ⊢
  rw [hW4] at hB F3 F1 F2 ⊢
  clear hA4 hW4
  refine (letters_any _).mono ?_
  rintro y v5 ⟨rfl, hb⟩
  have F1 : FBlk v5 A1 3 0 := (hb.block _ F1.lt).trans F1
  have F2 : FBlk v5 A2 3 0 := (hb.block _ F2.lt).trans F2
  have F3 : FBlk v5 A4 0 0 := (hb.block _ F3.lt).trans F3
  have hB := hB.trans (hb.mono hB.size)
  clear hb
  go_wp2_with fail
  refine (canonical_any [37] (by decide) lettersW.a lettersW.b lettersW.c lettersW.d _).mono ?_
  rintro y v6 ⟨rfl, hb⟩
  rw [show (WSet.mk lettersW.a lettersW.b lettersW.c lettersW.d) = lettersW from rfl, k4]
  have F1 : FBlk v6 A1 3 0 := (hb.block _ F1.lt).trans F1
  have F2 : FBlk v6 A2 3 0 := (hb.block _ F2.lt).trans F2
  have F3 : FBlk v6 A4 0 0 := (hb.block _ F3.lt).trans F3
  have hB := hB.trans (hb.mono hB.size)
  clear hb
  have F4 : FBlk (v6.alloc (.cells #[.int .i64 3, .int .i64 0] 28)) v6.heap.size 3 0 := heap_alloc_new v6 _
  have F1 := F1.alloc (.cells #[.int .i64 3, .int .i64 0] 28)
  have F2 := F2.alloc (.cells #[.int .i64 3, .int .i64 0] 28)
  have F3 := F3.alloc (.cells #[.int .i64 3, .int .i64 0] 28)
  have hB := hB.alloc hB.size (.cells #[.int .i64 3, .int .i64 0] 28)
  go_wp2_with fail
  obtain ⟨A6, hA6⟩ : ∃ A, v6.heap.size = A := ⟨_, rfl⟩
  obtain ⟨W6, hW6⟩ : ∃ W, v6.alloc (.cells #[.int .i64 3, .int .i64 0] 28) = W := ⟨_, rfl⟩
  rw [hA6] at F4 ⊢
  rw [hW6] at hB F4 F1 F2 F3 ⊢
  clear hA6 hW6
  refine (escapes_any [97, 37, 50, 48, 37, 52, 49] (by decide) _).mono ?_
  rintro y v7 ⟨rfl, hb⟩
  rw [k5]
  have F1 : FBlk v7 A1 3 0 := (hb.block _ F1.lt).trans F1
  have F2 : FBlk v7 A2 3 0 := (hb.block _ F2.lt).trans F2
  have F3 : FBlk v7 A4 0 0 := (hb.block _ F3.lt).trans F3
  have F4 : FBlk v7 A6 3 0 := (hb.block _ F4.lt).trans F4
  have hB := hB.trans (hb.mono hB.size)
  clear hb
  have F5 : FBlk (v7.alloc (.cells #[.int .i64 0, .int .i64 0] 28)) v7.heap.size 0 0 := heap_alloc_new v7 _
  have F1 := F1.alloc (.cells #[.int .i64 0, .int .i64 0] 28)
  have F2 := F2.alloc (.cells #[.int .i64 0, .int .i64 0] 28)
  have F3 := F3.alloc (.cells #[.int .i64 0, .int .i64 0] 28)
  have F4 := F4.alloc (.cells #[.int .i64 0, .int .i64 0] 28)
  have hB := hB.alloc hB.size (.cells #[.int .i64 0, .int .i64 0] 28)
  go_wp2_with fail
  obtain ⟨A7, hA7⟩ : ∃ A, v7.heap.size = A := ⟨_, rfl⟩
  obtain ⟨W7, hW7⟩ : ∃ W, v7.alloc (.cells #[.int .i64 0, .int .i64 0] 28) = W := ⟨_, rfl⟩
  rw [hA7] at F5 ⊢
  rw [hW7] at hB F5 F1 F2 F3 F4 ⊢
  clear hA7 hW7
  refine (cut_any [97, 37, 50, 48, 98] (by decide) 3 _).mono ?_
  rintro y v8 ⟨rfl, hb⟩
  rw [k6]
  have F1 : FBlk v8 A1 3 0 := (hb.block _ F1.lt).trans F1
  have F2 : FBlk v8 A2 3 0 := (hb.block _ F2.lt).trans F2
  have F3 : FBlk v8 A4 0 0 := (hb.block _ F3.lt).trans F3
  have F4 : FBlk v8 A6 3 0 := (hb.block _ F4.lt).trans F4
  have F5 : FBlk v8 A7 0 0 := (hb.block _ F5.lt).trans F5
  have hB := hB.trans (hb.mono hB.size)
  clear hb
  go_wp2_with fail
  refine (cut_any [97, 37, 50, 48, 98] (by decide) (-1) _).mono ?_
  rintro y v9 ⟨rfl, hb⟩
  rw [k7]
  have F1 : FBlk v9 A1 3 0 := (hb.block _ F1.lt).trans F1
  have F2 : FBlk v9 A2 3 0 := (hb.block _ F2.lt).trans F2
  have F3 : FBlk v9 A4 0 0 := (hb.block _ F3.lt).trans F3
  have F4 : FBlk v9 A6 3 0 := (hb.block _ F4.lt).trans F4
  have F5 : FBlk v9 A7 0 0 := (hb.block _ F5.lt).trans F5
  have hB := hB.trans (hb.mono hB.size)
  clear hb
  go_wp2_with fail
  refine (cut_any [97, 37] (by decide) 9 _).mono ?_
  rintro y v10 ⟨rfl, hb⟩
  rw [k8]
  have F1 : FBlk v10 A1 3 0 := (hb.block _ F1.lt).trans F1
  have F2 : FBlk v10 A2 3 0 := (hb.block _ F2.lt).trans F2
  have F3 : FBlk v10 A4 0 0 := (hb.block _ F3.lt).trans F3
  have F4 : FBlk v10 A6 3 0 := (hb.block _ F4.lt).trans F4
  have F5 : FBlk v10 A7 0 0 := (hb.block _ F5.lt).trans F5
  have hB := hB.trans (hb.mono hB.size)
  clear hb
  go_wp2_with fail
  refine (offset_any [97, 37, 50, 48, 98] (by decide) 0 _).mono ?_
  rintro y v11 ⟨rfl, hb⟩
  rw [k9]
  have F1 : FBlk v11 A1 3 0 := (hb.block _ F1.lt).trans F1
  have F2 : FBlk v11 A2 3 0 := (hb.block _ F2.lt).trans F2
  have F3 : FBlk v11 A4 0 0 := (hb.block _ F3.lt).trans F3
  have F4 : FBlk v11 A6 3 0 := (hb.block _ F4.lt).trans F4
  have F5 : FBlk v11 A7 0 0 := (hb.block _ F5.lt).trans F5
  have hB := hB.trans (hb.mono hB.size)
  clear hb
  go_wp2_with fail
  refine (offset_any [97, 37, 50, 48, 98] (by decide) 3 _).mono ?_
  rintro y v12 ⟨rfl, hb⟩
  rw [k10]
  have F1 : FBlk v12 A1 3 0 := (hb.block _ F1.lt).trans F1
  have F2 : FBlk v12 A2 3 0 := (hb.block _ F2.lt).trans F2
  have F3 : FBlk v12 A4 0 0 := (hb.block _ F3.lt).trans F3
  have F4 : FBlk v12 A6 3 0 := (hb.block _ F4.lt).trans F4
  have F5 : FBlk v12 A7 0 0 := (hb.block _ F5.lt).trans F5
  have hB := hB.trans (hb.mono hB.size)
  clear hb
  go_wp2_with fail
  refine (offset_any [97, 37, 50, 48, 98] (by decide) 4 _).mono ?_
  rintro y v13 ⟨rfl, hb⟩
  rw [k11]
  have F1 : FBlk v13 A1 3 0 := (hb.block _ F1.lt).trans F1
  have F2 : FBlk v13 A2 3 0 := (hb.block _ F2.lt).trans F2
  have F3 : FBlk v13 A4 0 0 := (hb.block _ F3.lt).trans F3
  have F4 : FBlk v13 A6 3 0 := (hb.block _ F4.lt).trans F4
  have F5 : FBlk v13 A7 0 0 := (hb.block _ F5.lt).trans F5
  have hB := hB.trans (hb.mono hB.size)
  clear hb
  obtain ⟨xF10, xF11, -, -⟩ := F1.cells
  obtain ⟨xF20, xF21, -, -⟩ := F2.cells
  obtain ⟨xF30, xF31, -, -⟩ := F3.cells
  obtain ⟨xF40, xF41, -, -⟩ := F4.cells
  obtain ⟨xF50, xF51, -, -⟩ := F5.cells
  go_wp2_with fail
  clear xF10 xF11
  clear xF20 xF21
  clear xF30 xF31
  clear xF40 xF41
  clear xF50 xF51
  refine (letters_any _).mono ?_
  rintro y v14 ⟨rfl, hb⟩
  have hB := hB.trans (hb.mono hB.size)
  clear hb
  go_wp2_with fail
  refine (length_any [97, 47, 98, 32, 99, 37] (by decide) lettersW.a lettersW.b lettersW.c lettersW.d _).mono ?_
  rintro y v15 ⟨rfl, hb⟩
  rw [show (WSet.mk lettersW.a lettersW.b lettersW.c lettersW.d) = lettersW from rfl, k12]
  have hB := hB.trans (hb.mono hB.size)
  clear hb
  go_wp2_with fail
  refine (letters_any _).mono ?_
  rintro y v16 ⟨rfl, hb⟩
  have hB := hB.trans (hb.mono hB.size)
  clear hb
  go_wp2_with fail
  refine (encode_any [65] (by decide) lettersW.a lettersW.b lettersW.c lettersW.d _).mono ?_
  rintro y v17 ⟨rfl, hb⟩
  rw [show (WSet.mk lettersW.a lettersW.b lettersW.c lettersW.d) = lettersW from rfl, k13]
  have hB := hB.trans (hb.mono hB.size)
  clear hb
  go_wp2_with fail
  refine (letters_any _).mono ?_
  rintro y v18 ⟨rfl, hb⟩
  have hB := hB.trans (hb.mono hB.size)
  clear hb
  go_wp2_with fail
  refine (is_any [97, 37, 50, 70, 98] (by decide) lettersW.a lettersW.b lettersW.c lettersW.d _).mono ?_
  rintro y v19 ⟨rfl, hb⟩
  rw [show (WSet.mk lettersW.a lettersW.b lettersW.c lettersW.d) = lettersW from rfl, k14]
  have hB := hB.trans (hb.mono hB.size)
  clear hb
  go_wp2_with fail
  refine (letters_any _).mono ?_
  rintro y v20 ⟨rfl, hb⟩
  have hB := hB.trans (hb.mono hB.size)
  clear hb
  go_wp2_with fail
  refine (is_any [97, 37, 50, 102] (by decide) lettersW.a lettersW.b lettersW.c lettersW.d _).mono ?_
  rintro y v21 ⟨rfl, hb⟩
  rw [show (WSet.mk lettersW.a lettersW.b lettersW.c lettersW.d) = lettersW from rfl, k15]
  have hB := hB.trans (hb.mono hB.size)
  clear hb
  go_wp2_with fail
  refine (awake_any _).mono ?_
  rintro y v22 ⟨rfl, hb⟩
  have hB := hB.trans (hb.mono hB.size)
  clear hb
  go_wp2_with fail
  go_ret
  exact ⟨rfl, hB⟩
end Go.Proofs.Ytheajdgdllobbaa
