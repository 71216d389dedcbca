/-
  The law PatternKnown returns true.
-/
import Derived.Test.YtdnbnigebejgjaaDoorHJL6
namespace Go.Proofs.YtdnbnigebejgjaaDoor
open Go.RowKit Go.Shelf
def bgL : List ND := [⟨3, 0, .empty, 0, 1, (-1)⟩, ⟨2, 0, .empty, 0, 2, (-1)⟩, ⟨1, 0, oneS 47, 0, (-1), 3⟩, ⟨4, 3, .empty, 1, 4, 9⟩, ⟨3, 0, .empty, 0, 5, (-1)⟩, ⟨2, 0, .empty, 0, 6, 7⟩, ⟨1, 0, oneS 97, 0, (-1), (-1)⟩, ⟨2, 0, .empty, 0, 8, (-1)⟩, ⟨1, 2, oneS 98, 0, (-1), (-1)⟩, ⟨1, 0, oneS 99, 0, (-1), (-1)⟩]
theorem kn_r1 : parP [94, 36] = (⟨emL, true, true, 0⟩, 0, 0) := by decide +kernel
theorem kn_r2 : parP [94, 47, 40, 97, 124, 98, 43, 41, 63, 99] = (⟨bgL, true, false, 1⟩, 0, 0) := by decide +kernel
theorem kn_f0 : (parP [42]).2 = (3, 0) := by decide +kernel
theorem kn_f1 : (parP [40, 97, 41, 42]).2 = (3, 3) := by decide +kernel
theorem kn_f2 : (parP [40, 97]).2 = (3, 2) := by decide +kernel
theorem kn_f3 : (parP [97, 41]).2 = (3, 1) := by decide +kernel
theorem kn_f4 : (parP [97, 94]).2 = (3, 1) := by decide +kernel
theorem kn_f5 : (parP [36, 97]).2 = (3, 0) := by decide +kernel
theorem kn_f6 : (parP [91, 93]).2 = (3, 1) := by decide +kernel
theorem kn_f7 : (parP [91, 122, 45, 97, 93]).2 = (8, 3) := by decide +kernel
theorem kn_f8 : (parP [91, 97, 45, 92, 100, 93]).2 = (3, 4) := by decide +kernel
theorem kn_f9 : (parP [91, 94, 0, 45, 255, 93]).2 = (3, 5) := by decide +kernel
theorem kn_f10 : (parP [92]).2 = (3, 1) := by decide +kernel
theorem kn_t0 : (parP [92, 100]).2 = (0, 0) := by decide +kernel
theorem kn_x0 : txtR (parP [92, 100]).1.L (parP [92, 100]).1.b (parP [92, 100]).1.en (parP [92, 100]).1.g = ([91, 48, 45, 57, 93], 0) := by decide +kernel
theorem kn_t1 : (parP [91, 94, 97, 93]).2 = (0, 0) := by decide +kernel
theorem kn_x1 : txtR (parP [91, 94, 97, 93]).1.L (parP [91, 94, 97, 93]).1.b (parP [91, 94, 97, 93]).1.en (parP [91, 94, 97, 93]).1.g = ([91, 0, 45, 96, 98, 45, 255, 93], 0) := by decide +kernel
theorem kn_t2 : (parP [92, 46]).2 = (0, 0) := by decide +kernel
theorem kn_x2 : txtR (parP [92, 46]).1.L (parP [92, 46]).1.b (parP [92, 46]).1.en (parP [92, 46]).1.g = ([92, 46], 0) := by decide +kernel
def knT : List UInt8 := [94, 47, 40, 97, 40, 98, 41, 41, 40, 99, 41]
theorem kn_p : (parP knT).2 = (0, 0) := by decide +kernel
theorem kn_i1 : insR (parP knT).1.L (parP knT).1.g 1 2 = (true, 0) := by decide +kernel
theorem kn_i2 : insR (parP knT).1.L (parP knT).1.g 2 1 = (false, 0) := by decide +kernel
theorem kn_d1 : disR (parP knT).1.L (parP knT).1.g [1, 3] = (true, 0) := by decide +kernel
theorem kn_d2 : disR (parP knT).1.L (parP knT).1.g [1, 2] = (false, 0) := by decide +kernel
theorem kn_d3 : disR (parP knT).1.L (parP knT).1.g [0] = (true, 0) := by decide +kernel
theorem ints_blk {W : World} {B : Nat} {l : List Int} (h : CBlk 3 W B (l.map intV)) : CellsIn W (some ⟨B, 0, none⟩) l.length (intC fun j => l.getD j 0) := by
  intro j hj
  refine ⟨B, 0, rfl, h.lt, ?_⟩
  rw [Nat.zero_add, h.cell j (by rw [List.length_map]; exact hj), List.getElem_map]
  unfold intC intV
  show some (Value.int .i64 l[j]) = some (Value.int .i64 (l.getD j 0))
  rw [List.getD_eq_getElem?_getD, List.getElem?_eq_getElem hj]
  rfl
set_option maxHeartbeats 16000000 in
set_option maxRecDepth 100000 in
theorem known_law (W : World) (hTS : TS W) : Calls Tryd.prog 3 #[] W fun e w' => e = .returned (.bool true) ∧ Below W.heap.size W w' := by
  have HAW := Lib.hid fun w h => awake_any w h
  have HE := Lib.hid fun w => empty_any w
  have R1 := Lib.hid fun v w h hT => reads_true v w h hT kn_r1
  have R2 := Lib.hid fun v w h hT => reads_true v w h hT kn_r2
  have F0 := Lib.hid fun w hT => faulty_true w hT (by decide) kn_f0
  have F1 := Lib.hid fun w hT => faulty_true w hT (by decide) kn_f1
  have F2 := Lib.hid fun w hT => faulty_true w hT (by decide) kn_f2
  have F3 := Lib.hid fun w hT => faulty_true w hT (by decide) kn_f3
  have F4 := Lib.hid fun w hT => faulty_true w hT (by decide) kn_f4
  have F5 := Lib.hid fun w hT => faulty_true w hT (by decide) kn_f5
  have F6 := Lib.hid fun w hT => faulty_true w hT (by decide) kn_f6
  have F7 := Lib.hid fun w hT => faulty_true w hT (by decide) kn_f7
  have F8 := Lib.hid fun w hT => faulty_true w hT (by decide) kn_f8
  have F9 := Lib.hid fun w hT => faulty_true w hT (by decide) kn_f9
  have F10 := Lib.hid fun w hT => faulty_true w hT (by decide) kn_f10
  have X0 := Lib.hid fun w hT => text_true w hT kn_t0 kn_x0
  have X1 := Lib.hid fun w hT => text_true w hT kn_t1 kn_x1
  have X2 := Lib.hid fun w hT => text_true w hT kn_t2 kn_x2
  have ev : WSet.empty.v = .agg #[.int .u64 0, .int .u64 0, .int .u64 0, .int .u64 0] := rfl
  unfold bgL at R2
  have H0 := Lib.hid fun w => node_any 3 0 0 1 (-1) .empty w
  have e0 : ndV ⟨3, 0, .empty, 0, 1, (-1)⟩ = .agg #[.int .i64 3, .int .i64 0, .int .u64 0, .int .u64 0, .int .u64 0, .int .u64 0, .int .i64 0, .int .i64 1, .int .i64 (-1)] := rfl
  rw [ev, e0] at H0
  clear e0
  have H1 := Lib.hid fun w => node_any 2 0 0 2 (-1) .empty w
  have e1 : ndV ⟨2, 0, .empty, 0, 2, (-1)⟩ = .agg #[.int .i64 2, .int .i64 0, .int .u64 0, .int .u64 0, .int .u64 0, .int .u64 0, .int .i64 0, .int .i64 2, .int .i64 (-1)] := rfl
  rw [ev, e1] at H1
  clear e1
  have H2 := Lib.hid fun w => node_any 1 0 0 (-1) 3 (oneS 47) w
  have O2 := Lib.hid fun w => lone_any 47 (by omega) w
  obtain ⟨⟨a47, b47, c47, d47⟩, hS47⟩ : ∃ S, oneS 47 = S := ⟨_, rfl⟩
  rw [hS47] at H2 O2 R2
  clear hS47
  unfold WSet.v at H2 O2
  unfold ndV ndC at H2
  dsimp only at H2 O2
  have H3 := Lib.hid fun w => node_any 4 3 1 4 9 .empty w
  have e3 : ndV ⟨4, 3, .empty, 1, 4, 9⟩ = .agg #[.int .i64 4, .int .i64 3, .int .u64 0, .int .u64 0, .int .u64 0, .int .u64 0, .int .i64 1, .int .i64 4, .int .i64 9] := rfl
  rw [ev, e3] at H3
  clear e3
  have H4 := Lib.hid fun w => node_any 3 0 0 5 (-1) .empty w
  have e4 : ndV ⟨3, 0, .empty, 0, 5, (-1)⟩ = .agg #[.int .i64 3, .int .i64 0, .int .u64 0, .int .u64 0, .int .u64 0, .int .u64 0, .int .i64 0, .int .i64 5, .int .i64 (-1)] := rfl
  rw [ev, e4] at H4
  clear e4
  have H5 := Lib.hid fun w => node_any 2 0 0 6 7 .empty w
  have e5 : ndV ⟨2, 0, .empty, 0, 6, 7⟩ = .agg #[.int .i64 2, .int .i64 0, .int .u64 0, .int .u64 0, .int .u64 0, .int .u64 0, .int .i64 0, .int .i64 6, .int .i64 7] := rfl
  rw [ev, e5] at H5
  clear e5
  have H6 := Lib.hid fun w => node_any 1 0 0 (-1) (-1) (oneS 97) w
  have O6 := Lib.hid fun w => lone_any 97 (by omega) w
  obtain ⟨⟨a97, b97, c97, d97⟩, hS97⟩ : ∃ S, oneS 97 = S := ⟨_, rfl⟩
  rw [hS97] at H6 O6 R2
  clear hS97
  unfold WSet.v at H6 O6
  unfold ndV ndC at H6
  dsimp only at H6 O6
  have H7 := Lib.hid fun w => node_any 2 0 0 8 (-1) .empty w
  have e7 : ndV ⟨2, 0, .empty, 0, 8, (-1)⟩ = .agg #[.int .i64 2, .int .i64 0, .int .u64 0, .int .u64 0, .int .u64 0, .int .u64 0, .int .i64 0, .int .i64 8, .int .i64 (-1)] := rfl
  rw [ev, e7] at H7
  clear e7
  have H8 := Lib.hid fun w => node_any 1 2 0 (-1) (-1) (oneS 98) w
  have O8 := Lib.hid fun w => lone_any 98 (by omega) w
  obtain ⟨⟨a98, b98, c98, d98⟩, hS98⟩ : ∃ S, oneS 98 = S := ⟨_, rfl⟩
  rw [hS98] at H8 O8 R2
  clear hS98
  unfold WSet.v at H8 O8
  unfold ndV ndC at H8
  dsimp only at H8 O8
  have H9 := Lib.hid fun w => node_any 1 0 0 (-1) (-1) (oneS 99) w
  have O9 := Lib.hid fun w => lone_any 99 (by omega) w
  obtain ⟨⟨a99, b99, c99, d99⟩, hS99⟩ : ∃ S, oneS 99 = S := ⟨_, rfl⟩
  rw [hS99] at H9 O9 R2
  clear hS99
  unfold WSet.v at H9 O9
  unfold ndV ndC at H9
  dsimp only at H9 O9
  clear ev
  have HP := Lib.hid fun w h => parse19_any knT w h
  have hck := par_chk (t := knT) (by rw [kn_p])
  have i1 := kn_i1
  have i2 := kn_i2
  have j1 := kn_d1
  have j2 := kn_d2
  have j3 := kn_d3
  rw [kn_p] at HP
  obtain ⟨⟨L, b, e, g⟩, hT⟩ : ∃ T, (parP knT).1 = T := ⟨_, rfl⟩
  rw [hT] at HP hck i1 i2 j1 j2 j3
  unfold treeV at HP
  unfold knT at HP
  dsimp only at HP hck i1 i2 j1 j2 j3
  clear hT
  have hL := (chk_zero hck).1
  have I1 := Lib.hid fun v w h => inside_any L (by omega) v b e g 1 2 w h
  have I2 := Lib.hid fun v w h => inside_any L (by omega) v b e g 2 1 w h
  rw [i1] at I1
  rw [i2] at I2
  have D1 := Lib.hid fun v w B h (hb : CBlk 3 w B [.int .i64 1, .int .i64 3]) => disjoint_any L (by omega) v b e g hck (some ⟨B, 0, none⟩) 2 [1, 3] (by simp) (by simp) (by omega) w h (ints_blk hb)
  have D2 := Lib.hid fun v w B h (hb : CBlk 3 w B [.int .i64 1, .int .i64 2]) => disjoint_any L (by omega) v b e g hck (some ⟨B, 0, none⟩) 2 [1, 2] (by simp) (by simp) (by omega) w h (ints_blk hb)
  have D3 := Lib.hid fun v w B h (hb : CBlk 3 w B [.int .i64 0]) => disjoint_any L (by omega) v b e g hck (some ⟨B, 0, none⟩) 1 [0] (by simp) (by simp) (by omega) w h (ints_blk hb)
  rw [j1] at D1
  rw [j2] at D2
  rw [j3] at D3
  dsimp only [List.length_cons, List.length_nil] at D1 D2 D3
  have hef := eq_fault 0 0 0 0
  rw [decide_eq_true ⟨rfl, rfl⟩] at hef
  clear hck i1 i2 j1 j2 j3
  go_enter Tryd.func3, Tryd.ntmps3
  go_wp2_with fail
  refine (HE.out _).mono ?_
  rintro x w0 ⟨E, rfl, hn, hb⟩
  have HN := Lib.hid hn
  clear hn
  go_wp2_with fail
  have tA := CBlk.new 24 w0 [.slice (some ⟨E, 0, none⟩) 2 2, .bool true, .bool true, .int .i64 0]
  have hA0 : Below w0.heap.size w0 (w0.alloc (.cells #[.slice (some ⟨E, 0, none⟩) 2 2, .bool true, .bool true, .int .i64 0] 24)) := (Below.refl _ w0).alloc (Nat.le_refl _) _
  have hNX := HN.out.below hA0 (Nat.le_refl _)
  have hB := hb.trans (hA0.mono hb.size)
  generalize hX : w0.alloc (.cells #[.slice (some ⟨E, 0, none⟩) 2 2, .bool true, .bool true, .int .i64 0] 24) = X at tA hNX hB ⊢
  obtain ⟨A, hA⟩ : ∃ A, w0.heap.size = A := ⟨_, rfl⟩
  rw [hA] at tA ⊢
  have HTA := Lib.hid tA
  have HNX := Lib.hid hNX
  have HBX := Lib.hid hB
  have hc : Below X.heap.size X X := Below.refl _ _
  clear hX hA HN hA0 hNX hb hB tA HE
  refine (H0.out _).mono ?_
  rintro x w1 ⟨rfl, hb⟩
  have hc := hc.trans (hb.mono hc.size)
  clear hb H0
  go_wp2_with fail
  refine (H1.out _).mono ?_
  rintro x w2 ⟨rfl, hb⟩
  have hc := hc.trans (hb.mono hc.size)
  clear hb H1
  go_wp2_with fail
  refine (O2.out _).mono ?_
  rintro x w3 ⟨rfl, hb⟩
  have hc := hc.trans (hb.mono hc.size)
  clear hb O2
  go_wp2_with fail
  refine (H2.out _).mono ?_
  rintro x w4 ⟨rfl, hb⟩
  have hc := hc.trans (hb.mono hc.size)
  clear hb H2
  go_wp2_with fail
  refine (H3.out _).mono ?_
  rintro x w5 ⟨rfl, hb⟩
  have hc := hc.trans (hb.mono hc.size)
  clear hb H3
  go_wp2_with fail
  refine (H4.out _).mono ?_
  rintro x w6 ⟨rfl, hb⟩
  have hc := hc.trans (hb.mono hc.size)
  clear hb H4
  go_wp2_with fail
  refine (H5.out _).mono ?_
  rintro x w7 ⟨rfl, hb⟩
  have hc := hc.trans (hb.mono hc.size)
  clear hb H5
  go_wp2_with fail
  refine (O6.out _).mono ?_
  rintro x w8 ⟨rfl, hb⟩
  have hc := hc.trans (hb.mono hc.size)
  clear hb O6
  go_wp2_with fail
  refine (H6.out _).mono ?_
  rintro x w9 ⟨rfl, hb⟩
  have hc := hc.trans (hb.mono hc.size)
  clear hb H6
  go_wp2_with fail
  refine (H7.out _).mono ?_
  rintro x w10 ⟨rfl, hb⟩
  have hc := hc.trans (hb.mono hc.size)
  clear hb H7
  go_wp2_with fail
  refine (O8.out _).mono ?_
  rintro x w11 ⟨rfl, hb⟩
  have hc := hc.trans (hb.mono hc.size)
  clear hb O8
  go_wp2_with fail
  refine (H8.out _).mono ?_
  rintro x w12 ⟨rfl, hb⟩
  have hc := hc.trans (hb.mono hc.size)
  clear hb H8
  go_wp2_with fail
  refine (O9.out _).mono ?_
  rintro x w13 ⟨rfl, hb⟩
  have hc := hc.trans (hb.mono hc.size)
  clear hb O9
  go_wp2_with fail
  refine (H9.out _).mono ?_
  rintro x w14 ⟨rfl, hb⟩
  have hc := hc.trans (hb.mono hc.size)
  clear hb H9
  have tA := HTA.out.below hc HTA.out.lt
  have c0 := tA.cell 0 (by simp)
  have c1 := tA.cell 1 (by simp)
  have c2 := tA.cell 2 (by simp)
  have c3 := tA.cell 3 (by simp)
  have lA := tA.lt
  go_wp2_with fail
  have n5 := CBlk.new 30 w14 (ndsC [⟨3, 0, .empty, 0, 1, (-1)⟩, ⟨2, 0, .empty, 0, 2, (-1)⟩, ⟨1, 0, ⟨a47, b47, c47, d47⟩, 0, (-1), 3⟩, ⟨4, 3, .empty, 1, 4, 9⟩, ⟨3, 0, .empty, 0, 5, (-1)⟩, ⟨2, 0, .empty, 0, 6, 7⟩, ⟨1, 0, ⟨a97, b97, c97, d97⟩, 0, (-1), (-1)⟩, ⟨2, 0, .empty, 0, 8, (-1)⟩, ⟨1, 2, ⟨a98, b98, c98, d98⟩, 0, (-1), (-1)⟩, ⟨1, 0, ⟨a99, b99, c99, d99⟩, 0, (-1), (-1)⟩])
  have n6 := n5.alloc (.cells #[.slice (some ⟨w14.heap.size, 0, none⟩) 10 10, .bool true, .bool false, .int .i64 1] 24)
  have tB := CBlk.new 24 (w14.alloc (.cells (ndsC [⟨3, 0, .empty, 0, 1, (-1)⟩, ⟨2, 0, .empty, 0, 2, (-1)⟩, ⟨1, 0, ⟨a47, b47, c47, d47⟩, 0, (-1), 3⟩, ⟨4, 3, .empty, 1, 4, 9⟩, ⟨3, 0, .empty, 0, 5, (-1)⟩, ⟨2, 0, .empty, 0, 6, 7⟩, ⟨1, 0, ⟨a97, b97, c97, d97⟩, 0, (-1), (-1)⟩, ⟨2, 0, .empty, 0, 8, (-1)⟩, ⟨1, 2, ⟨a98, b98, c98, d98⟩, 0, (-1), (-1)⟩, ⟨1, 0, ⟨a99, b99, c99, d99⟩, 0, (-1), (-1)⟩]).toArray 30)) [.slice (some ⟨w14.heap.size, 0, none⟩) 10 10, .bool true, .bool false, .int .i64 1]
  rw [World.size_alloc] at tB
  have hc := (hc.alloc hc.size (.cells (ndsC [⟨3, 0, .empty, 0, 1, (-1)⟩, ⟨2, 0, .empty, 0, 2, (-1)⟩, ⟨1, 0, ⟨a47, b47, c47, d47⟩, 0, (-1), 3⟩, ⟨4, 3, .empty, 1, 4, 9⟩, ⟨3, 0, .empty, 0, 5, (-1)⟩, ⟨2, 0, .empty, 0, 6, 7⟩, ⟨1, 0, ⟨a97, b97, c97, d97⟩, 0, (-1), (-1)⟩, ⟨2, 0, .empty, 0, 8, (-1)⟩, ⟨1, 2, ⟨a98, b98, c98, d98⟩, 0, (-1), (-1)⟩, ⟨1, 0, ⟨a99, b99, c99, d99⟩, 0, (-1), (-1)⟩]).toArray 30)).alloc (by have := hc.size; rw [World.size_alloc]; omega) (.cells #[.slice (some ⟨w14.heap.size, 0, none⟩) 10 10, .bool true, .bool false, .int .i64 1] 24)
  have HNB := Lib.hid (nds_at_blk (cp := 10) n6 (show 10 = ([⟨3, 0, .empty, 0, 1, (-1)⟩, ⟨2, 0, .empty, 0, 2, (-1)⟩, ⟨1, 0, ⟨a47, b47, c47, d47⟩, 0, (-1), 3⟩, ⟨4, 3, .empty, 1, 4, 9⟩, ⟨3, 0, .empty, 0, 5, (-1)⟩, ⟨2, 0, .empty, 0, 6, 7⟩, ⟨1, 0, ⟨a97, b97, c97, d97⟩, 0, (-1), (-1)⟩, ⟨2, 0, .empty, 0, 8, (-1)⟩, ⟨1, 2, ⟨a98, b98, c98, d98⟩, 0, (-1), (-1)⟩, ⟨1, 0, ⟨a99, b99, c99, d99⟩, 0, (-1), (-1)⟩] : List ND).length from rfl))
  clear n5 n6 c0 c1 c2 c3 lA tA
  refine (R1.out _ _ (HNX.out.below hc (Nat.le_refl _)) (hTS.below (HBX.out.trans (hc.mono HBX.out.size)))).mono ?_
  rintro x v0 ⟨rfl, hb⟩
  have hc := hc.trans (hb.mono hc.size)
  have tB := tB.below hb tB.lt
  have HNB := Lib.hid (HNB.out.below hb (Nat.le_refl _))
  clear hb R1
  have c0 := tB.cell 0 (by simp)
  have c1 := tB.cell 1 (by simp)
  have c2 := tB.cell 2 (by simp)
  have c3 := tB.cell 3 (by simp)
  go_wp2_with fail
  refine (R2.out _ _ HNB.out (hTS.below (HBX.out.trans (hc.mono HBX.out.size)))).mono ?_
  rintro x v1 ⟨rfl, hb⟩
  have hc := hc.trans (hb.mono hc.size)
  clear hb R2 c0 c1 c2 c3 tB HNB
  go_wp2_with fail
  refine (F0.out _ (hTS.below (HBX.out.trans (hc.mono HBX.out.size)))).mono ?_
  rintro x v2 ⟨rfl, hb⟩
  have hc := hc.trans (hb.mono hc.size)
  clear hb F0
  go_wp2_with fail
  refine (F1.out _ (hTS.below (HBX.out.trans (hc.mono HBX.out.size)))).mono ?_
  rintro x v3 ⟨rfl, hb⟩
  have hc := hc.trans (hb.mono hc.size)
  clear hb F1
  go_wp2_with fail
  refine (F2.out _ (hTS.below (HBX.out.trans (hc.mono HBX.out.size)))).mono ?_
  rintro x v4 ⟨rfl, hb⟩
  have hc := hc.trans (hb.mono hc.size)
  clear hb F2
  go_wp2_with fail
  refine (F3.out _ (hTS.below (HBX.out.trans (hc.mono HBX.out.size)))).mono ?_
  rintro x v5 ⟨rfl, hb⟩
  have hc := hc.trans (hb.mono hc.size)
  clear hb F3
  go_wp2_with fail
  refine (F4.out _ (hTS.below (HBX.out.trans (hc.mono HBX.out.size)))).mono ?_
  rintro x v6 ⟨rfl, hb⟩
  have hc := hc.trans (hb.mono hc.size)
  clear hb F4
  go_wp2_with fail
  refine (F5.out _ (hTS.below (HBX.out.trans (hc.mono HBX.out.size)))).mono ?_
  rintro x v7 ⟨rfl, hb⟩
  have hc := hc.trans (hb.mono hc.size)
  clear hb F5
  go_wp2_with fail
  refine (F6.out _ (hTS.below (HBX.out.trans (hc.mono HBX.out.size)))).mono ?_
  rintro x v8 ⟨rfl, hb⟩
  have hc := hc.trans (hb.mono hc.size)
  clear hb F6
  go_wp2_with fail
  refine (F7.out _ (hTS.below (HBX.out.trans (hc.mono HBX.out.size)))).mono ?_
  rintro x v9 ⟨rfl, hb⟩
  have hc := hc.trans (hb.mono hc.size)
  clear hb F7
  go_wp2_with fail
  refine (F8.out _ (hTS.below (HBX.out.trans (hc.mono HBX.out.size)))).mono ?_
  rintro x v10 ⟨rfl, hb⟩
  have hc := hc.trans (hb.mono hc.size)
  clear hb F8
  go_wp2_with fail
  refine (F9.out _ (hTS.below (HBX.out.trans (hc.mono HBX.out.size)))).mono ?_
  rintro x v11 ⟨rfl, hb⟩
  have hc := hc.trans (hb.mono hc.size)
  clear hb F9
  go_wp2_with fail
  refine (F10.out _ (hTS.below (HBX.out.trans (hc.mono HBX.out.size)))).mono ?_
  rintro x v12 ⟨rfl, hb⟩
  have hc := hc.trans (hb.mono hc.size)
  clear hb F10
  go_wp2_with fail
  refine (X0.out _ (hTS.below (HBX.out.trans (hc.mono HBX.out.size)))).mono ?_
  rintro x v13 ⟨rfl, hb⟩
  have hc := hc.trans (hb.mono hc.size)
  clear hb X0
  go_wp2_with fail
  refine (X1.out _ (hTS.below (HBX.out.trans (hc.mono HBX.out.size)))).mono ?_
  rintro x v14 ⟨rfl, hb⟩
  have hc := hc.trans (hb.mono hc.size)
  clear hb X1
  go_wp2_with fail
  refine (X2.out _ (hTS.below (HBX.out.trans (hc.mono HBX.out.size)))).mono ?_
  rintro x v15 ⟨rfl, hb⟩
  have hc := hc.trans (hb.mono hc.size)
  clear hb X2
  go_wp2_with fail
  refine (HP.out _ (hTS.below (HBX.out.trans (hc.mono HBX.out.size))).2.1).mono ?_
  rintro q y0 ⟨u, rfl, ⟨p, cp, rfl, hcp, hu⟩, hb⟩
  have hB := HBX.out.trans ((hc.trans (hb.mono hc.size)).mono HBX.out.size)
  have HU := Lib.hid hu
  clear hu hc hb HBX HNX HTA HP
  go_wp2_with fail
  have t0 := (CBlk.new 24 y0 [.slice p L.length cp, .bool b, .bool e, .int .i64 g]).alloc (.cells #[.int .i64 0, .int .i64 0] 38)
  have f0 := CBlk.new 38 (y0.alloc (.cells #[.slice p L.length cp, .bool b, .bool e, .int .i64 g] 24)) [.int .i64 0, .int .i64 0]
  rw [World.size_alloc] at f0
  have hb3 : Below y0.heap.size y0 ((y0.alloc (.cells #[.slice p L.length cp, .bool b, .bool e, .int .i64 g] 24)).alloc (.cells #[.int .i64 0, .int .i64 0] 38)) := ((Below.refl _ y0).alloc (Nat.le_refl _) _).alloc (by simp) _
  generalize hX : (y0.alloc (.cells #[.slice p L.length cp, .bool b, .bool e, .int .i64 g] 24)).alloc (.cells #[.int .i64 0, .int .i64 0] 38) = Y at t0 f0 hb3 ⊢
  have hB := hB.trans (hb3.mono hB.size)
  have HU := Lib.hid (HU.out.below hb3 (Nat.le_refl _))
  obtain ⟨B, hBe⟩ : ∃ B, y0.heap.size = B := ⟨_, rfl⟩
  rw [hBe] at t0 f0
  rw [hBe]
  have HT0 := Lib.hid t0
  have HF0 := Lib.hid f0
  have HBY := Lib.hid hB
  have hc : Below Y.heap.size Y Y := Below.refl _ _
  clear hX hBe hb3 t0 f0 hB
  have t1 := HT0.out.below hc HT0.out.lt
  have c0 := t1.cell 0 (by simp)
  have c1 := t1.cell 1 (by simp)
  have c2 := t1.cell 2 (by simp)
  have c3 := t1.cell 3 (by simp)
  refine (I1.out _ _ ⟨p, cp, rfl, hcp, HU.out.below hc (Nat.le_refl _)⟩).mono ?_
  rintro x z1 ⟨rfl, hb⟩
  have hc := hc.trans (hb.mono hc.size)
  clear hb I1 c0 c1 c2 c3 t1
  have t1 := HT0.out.below hc HT0.out.lt
  have c0 := t1.cell 0 (by simp)
  have c1 := t1.cell 1 (by simp)
  have c2 := t1.cell 2 (by simp)
  have c3 := t1.cell 3 (by simp)
  go_wp2_with fail
  refine (I2.out _ _ ⟨p, cp, rfl, hcp, HU.out.below hc (Nat.le_refl _)⟩).mono ?_
  rintro x z2 ⟨rfl, hb⟩
  have hc := hc.trans (hb.mono hc.size)
  clear hb I2 c0 c1 c2 c3 t1
  have t1 := HT0.out.below hc HT0.out.lt
  have c0 := t1.cell 0 (by simp)
  have c1 := t1.cell 1 (by simp)
  have c2 := t1.cell 2 (by simp)
  have c3 := t1.cell 3 (by simp)
  go_wp2_with fail
  have kb := CBlk.new 3 z2 [.int .i64 1, .int .i64 3]
  have hc := hc.alloc hc.size (.cells #[.int .i64 1, .int .i64 3] 3)
  refine (D1.out _ _ _ ⟨p, cp, rfl, hcp, HU.out.below hc (Nat.le_refl _)⟩ kb).mono ?_
  rintro x z3 ⟨rfl, hb⟩
  have hc := hc.trans (hb.mono hc.size)
  clear hb kb D1 c0 c1 c2 c3 t1
  have t1 := HT0.out.below hc HT0.out.lt
  have c0 := t1.cell 0 (by simp)
  have c1 := t1.cell 1 (by simp)
  have c2 := t1.cell 2 (by simp)
  have c3 := t1.cell 3 (by simp)
  go_wp2_with fail
  have kb := CBlk.new 3 z3 [.int .i64 1, .int .i64 2]
  have hc := hc.alloc hc.size (.cells #[.int .i64 1, .int .i64 2] 3)
  refine (D2.out _ _ _ ⟨p, cp, rfl, hcp, HU.out.below hc (Nat.le_refl _)⟩ kb).mono ?_
  rintro x z4 ⟨rfl, hb⟩
  have hc := hc.trans (hb.mono hc.size)
  clear hb kb D2 c0 c1 c2 c3 t1
  have t1 := HT0.out.below hc HT0.out.lt
  have c0 := t1.cell 0 (by simp)
  have c1 := t1.cell 1 (by simp)
  have c2 := t1.cell 2 (by simp)
  have c3 := t1.cell 3 (by simp)
  go_wp2_with fail
  have kb := CBlk.new 3 z4 [.int .i64 0]
  have hc := hc.alloc hc.size (.cells #[.int .i64 0] 3)
  refine (D3.out _ _ _ ⟨p, cp, rfl, hcp, HU.out.below hc (Nat.le_refl _)⟩ kb).mono ?_
  rintro x z5 ⟨rfl, hb⟩
  have hc := hc.trans (hb.mono hc.size)
  clear hb kb D3 c0 c1 c2 c3 t1
  have f1 := HF0.out.below hc HF0.out.lt
  have c0 := f1.cell 0 (by simp)
  have c1 := f1.cell 1 (by simp)
  go_wp2_with fail
  refine (HAW.out _ (hTS.below (HBY.out.trans (hc.mono HBY.out.size)))).mono ?_
  rintro x z9 ⟨rfl, hb⟩
  have hB := HBY.out.trans ((hc.trans (hb.mono hc.size)).mono HBY.out.size)
  go_wp2_with fail
  go_ret
  exact ⟨rfl, hB⟩
end Go.Proofs.YtdnbnigebejgjaaDoor
