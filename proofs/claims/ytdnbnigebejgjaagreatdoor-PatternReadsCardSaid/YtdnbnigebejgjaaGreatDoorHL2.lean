/-
  The law text's own functions of package pattern's outright laws: node, reads, faulty, text.
  The law text's own functions empty and awake.
-/
import Derived.Test.YtdnbnigebejgjaaGreatDoorHRef
import Derived.Test.YtdnbnigebejgjaaGreatDoorHA7
import Derived.Test.YtdnbnigebejgjaaGreatDoorHC12
namespace Go.Proofs.YtdnbnigebejgjaaGreatDoor
open Go.RowKit Go.Shelf
theorem node_results {w : World} {B : Nat} {a b c d e f g i j : Value} (h1 : CBlk 54 w B [a, b, c, d, e, f, g, i, j]) {fn : Func} {p : Tmp} (h : fn.results = #[.cell p 54]) (tmps : Array Value)
    (hp : tmps.getD p undef = .pointer (some ⟨B, 0, none⟩)) : (Go.results fn tmps).run Tryz.prog w = .ok (.agg #[a, b, c, d, e, f, g, i, j]) w := by
  have hp' : tmps[p]?.getD undef = .pointer (some ⟨B, 0, none⟩) := by simpa using hp
  have c0 := h1.cell 0 (by simp)
  have c1 := h1.cell 1 (by simp)
  have c2 := h1.cell 2 (by simp)
  have c3 := h1.cell 3 (by simp)
  have c4 := h1.cell 4 (by simp)
  have c5 := h1.cell 5 (by simp)
  have c6 := h1.cell 6 (by simp)
  have c7 := h1.cell 7 (by simp)
  have c8 := h1.cell 8 (by simp)
  simp only [List.getElem_cons_succ, List.getElem_cons_zero] at c0 c1 c2 c3 c4 c5 c6 c7 c8
  simp [Go.results, h, hp', asAddr, go_sem, c0, c1, c2, c3, c4, c5, c6, c7, c8]
theorem tree_results1 {w : World} {B : Nat} {v0 v1 v2 v3 : Value} (h1 : CBlk 25 w B [v0, v1, v2, v3]) {fn : Func} {p : Tmp} (h : fn.results = #[.cell p 25]) (tmps : Array Value)
    (hp : tmps.getD p undef = .pointer (some ⟨B, 0, none⟩)) : (Go.results fn tmps).run Tryz.prog w = .ok (.agg #[v0, v1, v2, v3]) w := by
  have hp' : tmps[p]?.getD undef = .pointer (some ⟨B, 0, none⟩) := by simpa using hp
  have c0 := h1.cell 0 (by simp)
  have c1 := h1.cell 1 (by simp)
  have c2 := h1.cell 2 (by simp)
  have c3 := h1.cell 3 (by simp)
  simp only [List.getElem_cons_succ, List.getElem_cons_zero] at c0 c1 c2 c3
  simp [Go.results, h, hp', asAddr, go_sem, c0, c1, c2, c3]
theorem node_any (k t g f n : Int) (s : WSet) (W : World) : Calls Tryz.prog 26 #[.int .i64 k, .int .i64 t, .int .i64 g, .int .i64 f, .int .i64 n, s.v] W fun e w' => e = .returned (ndV ⟨k, t, s, g, f, n⟩) ∧ Below W.heap.size W w' := by
  obtain ⟨a, b, c, d⟩ := s
  unfold WSet.v ndV ndC
  dsimp only
  have hz : (W.alloc (.cells #[.int .u64 (a.toNat : Int), .int .u64 (b.toNat : Int), .int .u64 (c.toNat : Int), .int .u64 (d.toNat : Int)] 41)).heap.size = W.heap.size + 1 := by simp
  have s0 := CBlk.new 54 (W.alloc (.cells #[.int .u64 (a.toNat : Int), .int .u64 (b.toNat : Int), .int .u64 (c.toNat : Int), .int .u64 (d.toNat : Int)] 41)) [.int .i64 k, .int .i64 t, .int .u64 (a.toNat : Int), .int .u64 (b.toNat : Int), .int .u64 (c.toNat : Int), .int .u64 (d.toNat : Int), .int .i64 g, .int .i64 f, .int .i64 n]
  rw [hz] at s0
  clear hz
  go_enter Tryz.func26, Tryz.ntmps26
  go_wp2_with fail
  refine bodyPost_ret (node_results s0 rfl _ rfl) rfl ⟨rfl, ?_⟩
  go_grown
set_option maxHeartbeats 2000000 in
theorem reads_true {l : List UInt8} {M : List ND} {b e : Bool} {g : Int} (v : Value) (W : World) (h : NdsAt W v M) (hTS : TS W) (hp : parP l = (⟨M, b, e, g⟩, 0, 0)) :
    Calls Tryz.prog 28 #[.string ⟨l.toArray⟩, .agg #[v, .bool b, .bool e, .int .i64 g]] W fun e w' => e = .returned (.bool true) ∧ Below W.heap.size W w' := by
  have hl : M.length < 1000000000 := by
    have := (chk_zero (par_chk (t := l) (by rw [hp]))).1
    rw [hp] at this
    exact Nat.lt_of_le_of_lt this (by omega)
  have HP := Lib.hid fun w h => parse19_any l w h
  rw [hp] at HP
  unfold treeV at HP
  dsimp only at HP
  clear hp
  have hef := eq_fault 0 0 0 0
  rw [decide_eq_true ⟨rfl, rfl⟩] at hef
  have HS := Lib.hid fun (u : Value) w (h1 : NdsAt w u M) (h2 : NdsAt w v M) => sameTree_any M M hl u v b e b e g g w h1 h2
  have HD : Hid (decide (M = M ∧ b = b ∧ e = e ∧ g = g) = true) := Lib.hid (decide_eq_true ⟨rfl, rfl, rfl, rfl⟩)
  rw [HD.out] at HS
  obtain ⟨p, cp, rfl, hcp, hN⟩ := h
  have HN := Lib.hid hN
  clear hN
  go_enter Tryz.func28, Tryz.ntmps28
  go_wp2_with fail
  have s1 := CBlk.new 25 W [.slice p M.length cp, .bool b, .bool e, .int .i64 g]
  have hB1 : Below W.heap.size W (W.alloc (.cells #[.slice p M.length cp, .bool b, .bool e, .int .i64 g] 25)) := (Below.refl _ W).alloc (Nat.le_refl _) _
  refine (HP.out _ (hTS.below hB1).2.1).mono ?_
  rintro x w2 ⟨u, rfl, ⟨r, cr, rfl, hcr, hu⟩, hb2⟩
  have t1 := s1.below hb2 s1.lt
  have hB2 := hB1.trans (hb2.mono hB1.size)
  have c0 := t1.cell 0 (by simp)
  have c1 := t1.cell 1 (by simp)
  have c2 := t1.cell 2 (by simp)
  have c3 := t1.cell 3 (by simp)
  have hlt := t1.lt
  have HU := Lib.hid hu
  clear s1 hB1 hb2 hu t1
  go_wp2_with fail
  generalize hX : (w2.alloc (.cells #[.slice r M.length cr, .bool b, .bool e, .int .i64 g] 25)).alloc (.cells #[.int .i64 0, .int .i64 0] 28) = X
  have hb3 : Below w2.heap.size w2 X := by rw [← hX]; exact ((Below.refl _ w2).alloc (Nat.le_refl _) _).alloc (by simp) _
  have hB3 := hB2.trans (hb3.mono hB2.size)
  refine (HS.out _ _ ⟨r, cr, rfl, hcr, HU.out.below hb3 (Nat.le_refl _)⟩ ⟨p, cp, rfl, hcp, HN.out.below hB3 (Nat.le_refl _)⟩).mono ?_
  rintro x w4 ⟨rfl, hb4⟩
  have hB4 := hB3.trans (hb4.mono hB3.size)
  go_wp2_with fail
  go_ret
  exact ⟨rfl, hB4⟩
set_option maxHeartbeats 2000000 in
theorem faulty_true {l : List UInt8} {e a : Nat} (W : World) (hTS : TS W) (he : e ≠ 0) (hp : (parP l).2 = (e, a)) :
    Calls Tryz.prog 30 #[.string ⟨l.toArray⟩, .int .i64 (e : Int), .int .i64 (a : Int)] W fun e w' => e = .returned (.bool true) ∧ Below W.heap.size W w' := by
  have HP := Lib.hid fun w h => parse19_any l w h
  have h1 : (parP l).1 = .none := par_f (by rw [hp]; exact he)
  rw [h1, hp] at HP
  unfold treeV at HP
  dsimp only [TR.none] at HP
  clear hp h1
  have hef := eq_fault e a e a
  rw [decide_eq_true ⟨rfl, rfl⟩] at hef
  go_enter Tryz.func30, Tryz.ntmps30
  go_wp2_with fail
  refine (HP.out _ hTS.2.1).mono ?_
  rintro x w2 ⟨u, rfl, ⟨r, cr, rfl, hcr, hu⟩, hb2⟩
  clear hu
  go_wp2_with fail
  go_ret
  refine ⟨rfl, ?_⟩
  exact (hb2.alloc (by have := hb2.size; omega) _).alloc (by have := hb2.size; simp; omega) _
set_option maxHeartbeats 2000000 in
theorem text_true {l x : List UInt8} (W : World) (hTS : TS W) (hp : (parP l).2 = (0, 0)) (hx : txtR (parP l).1.L (parP l).1.b (parP l).1.en (parP l).1.g = (x, 0)) :
    Calls Tryz.prog 31 #[.string ⟨l.toArray⟩, .string ⟨x.toArray⟩] W fun e w' => e = .returned (.bool true) ∧ Below W.heap.size W w' := by
  have hl := (chk_zero (par_chk (t := l) (by rw [hp]))).1
  have HP := Lib.hid fun w h => parse19_any l w h
  rw [hp] at HP
  obtain ⟨⟨L, b, e, g⟩, hT⟩ : ∃ T, (parP l).1 = T := ⟨_, rfl⟩
  rw [hT] at HP hl hx
  unfold treeV at HP
  dsimp only at HP hl hx
  have HX := Lib.hid fun v w h1 h2 => text_any L (by omega) v b e g w h1 h2
  rw [hx] at HX
  clear hp hT hx hl
  have hef := eq_fault 0 0 0 0
  rw [decide_eq_true ⟨rfl, rfl⟩] at hef
  go_enter Tryz.func31, Tryz.ntmps31
  go_wp2_with fail
  refine (HP.out _ hTS.2.1).mono ?_
  rintro q w2 ⟨u, rfl, ⟨r, cr, rfl, hcr, hu⟩, hb2⟩
  have HU := Lib.hid hu
  clear hu
  go_wp2_with fail
  generalize hX : (w2.alloc (.cells #[.slice r L.length cr, .bool b, .bool e, .int .i64 g] 25)).alloc (.cells #[.int .i64 0, .int .i64 0] 28) = X
  have hb3 : Below w2.heap.size w2 X := by rw [← hX]; exact ((Below.refl _ w2).alloc (Nat.le_refl _) _).alloc (by simp) _
  have hB3 := hb2.trans (hb3.mono hb2.size)
  have f1 : CBlk 28 X (w2.heap.size + 1) [.int .i64 0, .int .i64 0] := by
    rw [← hX]
    have := CBlk.new 28 (w2.alloc (.cells #[.slice r L.length cr, .bool b, .bool e, .int .i64 g] 25)) [.int .i64 0, .int .i64 0]
    rwa [World.size_alloc] at this
  refine (HX.out _ _ ⟨r, cr, rfl, hcr, HU.out.below hb3 (Nat.le_refl _)⟩ (hTS.below hB3)).mono ?_
  rintro q w4 ⟨rfl, hb4⟩
  have hB4 := hB3.trans (hb4.mono hB3.size)
  have f2 := f1.below hb4 f1.lt
  have c0 := f2.cell 0 (by simp)
  have c1 := f2.cell 1 (by simp)
  go_wp2_with fail
  go_ret
  exact ⟨rfl, hB4⟩
end Go.Proofs.YtdnbnigebejgjaaGreatDoor
namespace Go.Proofs.YtdnbnigebejgjaaGreatDoor
open Go.RowKit Go.Shelf
theorem nds_of_blk {t : TypeId} {w : World} {B : Nat} {L : List ND} (h : CBlk t w B (ndsC L)) : NdsIn w (some ⟨B, 0, none⟩) L := fun j hj => by
  have hl : j < (ndsC L).length := by rw [ndsC_length]; exact hj
  refine ⟨B, 0, rfl, h.lt, ?_⟩
  rw [Nat.zero_add, h.cell j hl]
  show _ = some ((ndsC L).getD j _)
  rw [List.getD_eq_getElem?_getD, List.getElem?_eq_getElem hl]
  rfl
theorem nds_at_blk {t : TypeId} {w : World} {B n cp : Nat} {L : List ND} (h : CBlk t w B (ndsC L)) (hn : n = L.length) : NdsAt w (.slice (some ⟨B, 0, none⟩) n cp) L :=
  ⟨some ⟨B, 0, none⟩, cp, by rw [hn], fun e => (by cases e), nds_of_blk h⟩
def emL : List ND := [⟨3, 0, .empty, 0, 1, -1⟩, ⟨2, 0, .empty, 0, -1, -1⟩]
set_option maxHeartbeats 2000000 in
theorem empty_any (W : World) : Calls Tryz.prog 29 #[] W fun e w' => ∃ B, e = .returned (.agg #[.slice (some ⟨B, 0, none⟩) 2 2, .bool false, .bool false, .int .i64 0]) ∧ NdsAt w' (.slice (some ⟨B, 0, none⟩) 2 2) emL ∧ Below W.heap.size W w' := by
  have H1 := Lib.hid fun w => node_any 3 0 0 1 (-1) .empty w
  have H2 := Lib.hid fun w => node_any 2 0 0 (-1) (-1) .empty w
  have ev : WSet.empty.v = .agg #[.int .u64 0, .int .u64 0, .int .u64 0, .int .u64 0] := rfl
  have e1 : ndV ⟨3, 0, .empty, 0, 1, -1⟩ = .agg #[.int .i64 3, .int .i64 0, .int .u64 0, .int .u64 0, .int .u64 0, .int .u64 0, .int .i64 0, .int .i64 1, .int .i64 (-1)] := rfl
  have e2 : ndV ⟨2, 0, .empty, 0, -1, -1⟩ = .agg #[.int .i64 2, .int .i64 0, .int .u64 0, .int .u64 0, .int .u64 0, .int .u64 0, .int .i64 0, .int .i64 (-1), .int .i64 (-1)] := rfl
  rw [ev] at H1 H2
  rw [e1] at H1
  rw [e2] at H2
  clear ev e1 e2
  go_enter Tryz.func29, Tryz.ntmps29
  go_wp2_with fail
  have s0 := CBlk.new 25 W [.slice none 0 0, .bool false, .bool false, .int .i64 0]
  have hB0 : Below W.heap.size W (W.alloc (.cells #[.slice none 0 0, .bool false, .bool false, .int .i64 0] 25)) := (Below.refl _ W).alloc (Nat.le_refl _) _
  refine (H1.out _).mono ?_
  rintro x w1 ⟨rfl, hb1⟩
  have s1 := s0.below hb1 s0.lt
  have hB1 := hB0.trans (hb1.mono hB0.size)
  clear s0 hB0 hb1
  go_wp2_with fail
  refine (H2.out _).mono ?_
  rintro x w2 ⟨rfl, hb2⟩
  have s2 := s1.below hb2 s1.lt
  have hB2 := hB1.trans (hb2.mono hB1.size)
  have hlt := s2.lt
  have c0 := s2.cell 0 (by simp)
  have c1 := s2.cell 1 (by simp)
  have c2 := s2.cell 2 (by simp)
  have c3 := s2.cell 3 (by simp)
  have f0 := s2.free 0
  have f1 := s2.free 1
  have f2 := s2.free 2
  have f3 := s2.free 3
  clear s1 hB1 hb2
  go_wp2_with fail
  have sX := (((s2.set 0 (.slice (some ⟨w2.heap.size, 0, none⟩) 2 2)).set 1 (.bool false)).set 2 (.bool false)).set 3 (.int .i64 0)
  have hBX := (((hB2.setCell (p := ⟨W.heap.size, 0, none⟩) (Nat.le_refl _) (.slice (some ⟨w2.heap.size, 0, none⟩) 2 2)).setCell (p := ⟨W.heap.size, 1, none⟩) (Nat.le_refl _) (.bool false)).setCell (p := ⟨W.heap.size, 2, none⟩) (Nat.le_refl _) (.bool false)).setCell (p := ⟨W.heap.size, 3, none⟩) (Nat.le_refl _) (.int .i64 0)
  have hXz : ((((w2.setCell ⟨W.heap.size, 0, none⟩ (.slice (some ⟨w2.heap.size, 0, none⟩) 2 2)).setCell ⟨W.heap.size, 1, none⟩ (.bool false)).setCell ⟨W.heap.size, 2, none⟩ (.bool false)).setCell ⟨W.heap.size, 3, none⟩ (.int .i64 0)).heap.size = w2.heap.size := by simp only [World.size_setCell]
  generalize ((((w2.setCell ⟨W.heap.size, 0, none⟩ (.slice (some ⟨w2.heap.size, 0, none⟩) 2 2)).setCell ⟨W.heap.size, 1, none⟩ (.bool false)).setCell ⟨W.heap.size, 2, none⟩ (.bool false)).setCell ⟨W.heap.size, 3, none⟩ (.int .i64 0)) = X at sX hBX hXz ⊢
  have n3 := CBlk.new 54 X (ndsC emL)
  rw [hXz] at n3
  have s3 := sX.alloc (.cells (ndsC emL).toArray 54)
  have hB3 := hBX.alloc (by rw [hXz]; exact hB2.size) (.cells (ndsC emL).toArray 54)
  exact bodyPost_ret (tree_results1 s3 rfl _ rfl) rfl ⟨w2.heap.size, rfl, nds_at_blk n3 rfl, hB3⟩
def awL : List ND := [⟨3, 0, .empty, 0, 1, -1⟩, ⟨2, 0, .empty, 0, 2, -1⟩, ⟨1, 0, oneS 97, 0, -1, -1⟩]
theorem aw_1 : parP [97] = (⟨awL, false, false, 0⟩, 0, 0) := by decide +kernel
theorem aw_2 : parP [] = (⟨emL, false, false, 0⟩, 0, 0) := by decide +kernel
theorem aw_3 : (parP [97, 42, 42]).2 = (3, 2) := by decide +kernel
theorem aw_4 : (parP [91, 99, 97, 98, 93]).2 = (0, 0) := by decide +kernel
theorem aw_5 : txtR (parP [91, 99, 97, 98, 93]).1.L (parP [91, 99, 97, 98, 93]).1.b (parP [91, 99, 97, 98, 93]).1.en (parP [91, 99, 97, 98, 93]).1.g = ([91, 97, 45, 99, 93], 0) := by decide +kernel
set_option maxHeartbeats 4000000 in
theorem awake_any (W : World) (hTS : TS W) : Calls Tryz.prog 6 #[] W fun e w' => e = .returned (.bool true) ∧ Below W.heap.size W w' := by
  have H1 := Lib.hid fun w => node_any 3 0 0 1 (-1) .empty w
  have H2 := Lib.hid fun w => node_any 2 0 0 2 (-1) .empty w
  have H3 := Lib.hid fun w => node_any 1 0 0 (-1) (-1) (oneS 97) w
  have HO := Lib.hid fun w => lone_any 97 (by omega) w
  have R1 := Lib.hid fun v w h hT => reads_true v w h hT aw_1
  have R2 := Lib.hid fun v w h hT => reads_true v w h hT aw_2
  have R3 := Lib.hid fun w hT => faulty_true w hT (by decide) aw_3
  have R4 := Lib.hid fun w hT => text_true w hT aw_4 aw_5
  have HE := Lib.hid fun w => empty_any w
  have ev : WSet.empty.v = .agg #[.int .u64 0, .int .u64 0, .int .u64 0, .int .u64 0] := rfl
  have e1 : ndV ⟨3, 0, .empty, 0, 1, -1⟩ = .agg #[.int .i64 3, .int .i64 0, .int .u64 0, .int .u64 0, .int .u64 0, .int .u64 0, .int .i64 0, .int .i64 1, .int .i64 (-1)] := rfl
  have e2 : ndV ⟨2, 0, .empty, 0, 2, -1⟩ = .agg #[.int .i64 2, .int .i64 0, .int .u64 0, .int .u64 0, .int .u64 0, .int .u64 0, .int .i64 0, .int .i64 2, .int .i64 (-1)] := rfl
  rw [ev] at H1 H2
  rw [e1] at H1
  rw [e2] at H2
  clear ev e1 e2
  unfold awL at R1
  obtain ⟨⟨a, b, c, d⟩, hS⟩ : ∃ S, oneS 97 = S := ⟨_, rfl⟩
  rw [hS] at H3 HO R1
  unfold WSet.v at H3 HO
  unfold ndV ndC at H3
  dsimp only at H3 HO
  clear hS
  go_enter Tryz.func6, Tryz.ntmps6
  go_wp2_with fail
  refine (H1.out _).mono ?_
  rintro x w1 ⟨rfl, hb1⟩
  go_wp2_with fail
  refine (H2.out _).mono ?_
  rintro x w2 ⟨rfl, hb2⟩
  have hB2 := hb1.trans (hb2.mono hb1.size)
  clear hb1 hb2
  go_wp2_with fail
  refine (HO.out _).mono ?_
  rintro x w3 ⟨rfl, hb3⟩
  have hB3 := hB2.trans (hb3.mono hB2.size)
  clear hB2 hb3
  go_wp2_with fail
  refine (H3.out _).mono ?_
  rintro x w4 ⟨rfl, hb4⟩
  have hB4 := hB3.trans (hb4.mono hB3.size)
  clear hB3 hb4
  go_wp2_with fail
  have n5 := CBlk.new 54 w4 (ndsC [⟨3, 0, .empty, 0, 1, -1⟩, ⟨2, 0, .empty, 0, 2, -1⟩, ⟨1, 0, ⟨a, b, c, d⟩, 0, -1, -1⟩])
  have hB5 := hB4.alloc hB4.size (.cells (ndsC [⟨3, 0, .empty, 0, 1, -1⟩, ⟨2, 0, .empty, 0, 2, -1⟩, ⟨1, 0, ⟨a, b, c, d⟩, 0, -1, -1⟩]).toArray 54)
  have n6 := n5.alloc (.cells #[.slice (some ⟨w4.heap.size, 0, none⟩) 3 3, .bool false, .bool false, .int .i64 0] 25)
  have hB6 := hB5.alloc hB5.size (.cells #[.slice (some ⟨w4.heap.size, 0, none⟩) 3 3, .bool false, .bool false, .int .i64 0] 25)
  clear n5 hB5
  refine (R1.out _ _ (nds_at_blk n6 rfl) (hTS.below hB6)).mono ?_
  rintro x w7 ⟨rfl, hb7⟩
  have hB7 := hB6.trans (hb7.mono hB6.size)
  clear hB6 hb7 n6
  go_wp2_with fail
  refine (HE.out _).mono ?_
  rintro x w8 ⟨B, rfl, hn8, hb8⟩
  have hB8 := hB7.trans (hb8.mono hB7.size)
  clear hB7 hb8
  go_wp2_with fail
  refine (R2.out _ _ hn8 (hTS.below hB8)).mono ?_
  rintro x w9 ⟨rfl, hb9⟩
  have hB9 := hB8.trans (hb9.mono hB8.size)
  clear hB8 hb9 hn8
  go_wp2_with fail
  refine (R3.out _ (hTS.below hB9)).mono ?_
  rintro x w10 ⟨rfl, hb10⟩
  have hB10 := hB9.trans (hb10.mono hB9.size)
  clear hB9 hb10
  go_wp2_with fail
  refine (R4.out _ (hTS.below hB10)).mono ?_
  rintro x w11 ⟨rfl, hb11⟩
  have hB11 := hB10.trans (hb11.mono hB10.size)
  go_wp2_with fail
  go_ret
  exact ⟨rfl, hB11⟩
end Go.Proofs.YtdnbnigebejgjaaGreatDoor
