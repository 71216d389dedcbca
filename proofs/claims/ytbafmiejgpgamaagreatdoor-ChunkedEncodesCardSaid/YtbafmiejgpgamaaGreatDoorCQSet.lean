/-
  The sets of package token: span, capitalSet, tokenSet.
-/
import Derived.Test.YtbafmiejgpgamaaGreatDoorBRanges
import Derived.Test.YtbafmiejgpgamaaGreatDoorCRef1
import Derived.Deep.DeepCutAuto
import Derived.Deep.RegionWith
import Derived.Deep.RegionHeld3
import Derived.Lib.SlBytesConst
namespace Go.Proofs.YtbafmiejgpgamaaGreatDoor
open Go.RowKit
set_option maxHeartbeats 1000000 in
theorem tspan_any (lo hi : Nat) (h1 : lo < 256) (h2 : hi < 256) (hle : lo ≤ hi) (w : World) :
    Calls Tryz.prog 113 #[.int .u8 lo, .int .u8 hi] w fun e w' => e = .returned (spanTo lo (hi + 1 - lo)).v ∧ Below w.heap.size w w' := by
  have hR := fun b W => ranges_ok b 0 1 1 (fun _ => lo) (fun _ => hi) (fun _ _ => ⟨h1, h2⟩) (fun _ _ => hle) (by unfold maxLen; omega) W
  have HR := Lib.hid hR
  have ht : rangesTo (fun _ => lo) (fun _ => hi) 1 = spanTo lo (hi + 1 - lo) := by
    simp [rangesTo, WSet.or, WSet.empty]
  obtain ⟨⟨a, b, c, d⟩, hs⟩ : ∃ s, spanTo lo (hi + 1 - lo) = s := ⟨_, rfl⟩
  rw [hs] at ht ⊢
  have HT := Lib.hid ht
  clear hR hs ht
  go_enter Tryz.func113, Tryz.ntmps113
  go_wp2_with fail
  have hk := heap_alloc_new (w.alloc (.cells #[.int .u64 0, .int .u64 0, .int .u64 0, .int .u64 0] 111)) (.cells #[.int .u8 lo, .int .u8 hi] 128)
  rw [World.size_alloc] at hk
  have b0 : Blk ((w.alloc (.cells #[.int .u64 0, .int .u64 0, .int .u64 0, .int .u64 0] 111)).alloc (.cells #[.int .u8 lo, .int .u8 hi] 128)) w.heap.size .empty := (Blk.new0 w).alloc _
  have hB0 : Below w.heap.size w ((w.alloc (.cells #[.int .u64 0, .int .u64 0, .int .u64 0, .int .u64 0] 111)).alloc (.cells #[.int .u8 lo, .int .u8 hi] 128)) := by go_grown
  have hz : w.heap.size + 1 < ((w.alloc (.cells #[.int .u64 0, .int .u64 0, .int .u64 0, .int .u64 0] 111)).alloc (.cells #[.int .u8 lo, .int .u8 hi] 128)).heap.size := by simp
  obtain ⟨W, hW⟩ : ∃ W, (w.alloc (.cells #[.int .u64 0, .int .u64 0, .int .u64 0, .int .u64 0] 111)).alloc (.cells #[.int .u8 lo, .int .u8 hi] 128) = W := ⟨_, rfl⟩
  rw [hW] at hk b0 hB0 hz ⊢
  clear hW
  refine (HR.out _ W hz ?_).mono ?_
  · intro j hj
    obtain rfl : j = 0 := by omega
    exact ⟨cell_of_row W _ _ _ _ _ hk, cell_of_row W _ _ _ _ _ hk⟩
  rintro e w1 ⟨rfl, hb⟩
  rw [HT.out]
  have b1 := (b0.below hb b0.lt).alloc (.cells #[.int .u64 a.toNat, .int .u64 b.toNat, .int .u64 c.toNat, .int .u64 d.toNat] 111)
  have b2 := Blk.new w1 ⟨a, b, c, d⟩
  have hB1 := (hB0.trans (hb.mono hB0.size)).alloc (Nat.le_trans hB0.size hb.size) (.cells #[.int .u64 a.toNat, .int .u64 b.toNat, .int .u64 c.toNat, .int .u64 d.toNat] 111)
  obtain ⟨c0, c1, c2, c3⟩ := b2.cells
  obtain ⟨d0, d1, d2, d3⟩ := b1.cells
  obtain ⟨f0, f1, f2, f3⟩ := b1.frees
  clear hk hz hb
  go_wp2_with fail
  exact bodyPost_ret ((b1.store ⟨a, b, c, d⟩).results rfl _ rfl) rfl ⟨rfl, Blk.belowStore _ hB1 (Nat.le_refl _)⟩
theorem Blk.store4 {w : World} {B : Nat} {s0 : WSet} (h : Blk w B s0) (a b c d : BitVec 64) : Blk ((((w.setCell ⟨B, 0, none⟩ (.int .u64 (a.toNat : Int))).setCell ⟨B, 1, none⟩ (.int .u64 (b.toNat : Int))).setCell ⟨B, 2, none⟩ (.int .u64 (c.toNat : Int))).setCell ⟨B, 3, none⟩ (.int .u64 (d.toNat : Int))) B ⟨a, b, c, d⟩ := h.store ⟨a, b, c, d⟩
theorem Blk.below4 {w wr : World} {B n : Nat} (a b c d : BitVec 64) (hB : Below n w wr) (h : n ≤ B) : Below n w ((((wr.setCell ⟨B, 0, none⟩ (.int .u64 (a.toNat : Int))).setCell ⟨B, 1, none⟩ (.int .u64 (b.toNat : Int))).setCell ⟨B, 2, none⟩ (.int .u64 (c.toNat : Int))).setCell ⟨B, 3, none⟩ (.int .u64 (d.toNat : Int))) := Blk.belowStore ⟨a, b, c, d⟩ hB h
theorem Blk.cells4 {w : World} {B : Nat} {a b c d : BitVec 64} (h : Blk w B ⟨a, b, c, d⟩) : w.cell? ⟨B, 0, none⟩ = some (.int .u64 (a.toNat : Int)) ∧ w.cell? ⟨B, 1, none⟩ = some (.int .u64 (b.toNat : Int)) ∧ w.cell? ⟨B, 2, none⟩ = some (.int .u64 (c.toNat : Int)) ∧ w.cell? ⟨B, 3, none⟩ = some (.int .u64 (d.toNat : Int)) := h.cells
/-- The letters in upper case. -/
def capS : WSet := spanTo 65 (90 + 1 - 65)
set_option maxHeartbeats 1000000 in
theorem capitalSet_any (a b c d : BitVec 64) (HT : Hid (capS = ⟨a, b, c, d⟩)) (w : World) :
    Calls Tryz.prog 115 #[] w fun e w' => e = .returned (WSet.mk a b c d).v ∧ Below w.heap.size w w' := by
  have HR : Hid (∀ W, Calls Tryz.prog 113 #[.int .u8 65, .int .u8 90] W fun e w' => e = .returned (WSet.mk a b c d).v ∧ Below W.heap.size W w') := Lib.hid fun W => by
    have h := tspan_any 65 90 (by omega) (by omega) (by omega) W
    have ht : spanTo 65 (90 + 1 - 65) = ⟨a, b, c, d⟩ := HT.out
    rw [ht] at h
    exact h
  clear HT
  go_enter Tryz.func115, Tryz.ntmps115
  go_wp2_with fail
  refine (HR.out _).mono ?_
  rintro e w1 ⟨rfl, hb⟩
  have b1 := (Blk.new0 w).below hb (by simp)
  have hB1 := ((Below.refl _ w).alloc (Nat.le_refl _) (.cells #[.int .u64 0, .int .u64 0, .int .u64 0, .int .u64 0] 111)).trans (hb.mono (by simp))
  obtain ⟨d0, d1, d2, d3⟩ := b1.cells
  obtain ⟨f0, f1, f2, f3⟩ := b1.frees
  clear hb
  go_wp2_with fail
  exact bodyPost_ret ((b1.store4 a b c d).results rfl _ rfl) rfl ⟨rfl, Blk.below4 a b c d hB1 (Nat.le_refl _)⟩
def digS : WSet := spanTo 48 (57 + 1 - 48)
/-- The marks that tokens have. -/
def mrkF (j : Nat) : Nat := [33, 35, 36, 37, 38, 39, 42, 43, 45, 46, 94, 95, 96, 124, 126].getD j 0
def mrkS : WSet := addTo .empty mrkF 15
theorem mrkF_lt : ∀ j, j < 15 → mrkF j < 256 := by decide
theorem mrk_cell : ∀ j, j < 15 → (#[.int .u8 33, .int .u8 35, .int .u8 36, .int .u8 37, .int .u8 38, .int .u8 39, .int .u8 42, .int .u8 43, .int .u8 45, .int .u8 46, .int .u8 94, .int .u8 95, .int .u8 96, .int .u8 124, .int .u8 126] : Array Value)[j]? = some (.int .u8 (mrkF j : Int)) := by
  intro j hj
  match j, hj with
  | 0, _ => rfl
  | 1, _ => rfl
  | 2, _ => rfl
  | 3, _ => rfl
  | 4, _ => rfl
  | 5, _ => rfl
  | 6, _ => rfl
  | 7, _ => rfl
  | 8, _ => rfl
  | 9, _ => rfl
  | 10, _ => rfl
  | 11, _ => rfl
  | 12, _ => rfl
  | 13, _ => rfl
  | 14, _ => rfl
/-- The conversion of a constant text's bytes, wherever they lie. -/
theorem conv_at {W : World} {B : Nat} {C : Array Value} (n c : Nat) (h : W.heap[B]? = some (.cells C 5)) :
    ∃ X, (convert 53 53 (.slice (some ⟨B, 0, none⟩) n c)).run Tryz.prog W = .ok (.slice (some ⟨B, 0, none⟩) n c) X ∧ X.heap[B]? = some (.cells C 5 (C.size, C.size + 1)) ∧ Below B W X := by
  have hlt : B < W.heap.size := lt_of_block h
  have hsh : W.shape? B = some (5, C.size) := by
    unfold World.shape?
    rw [h]
  refine ⟨W.freeze ⟨B, C.size, none⟩ 1, ?_, ?_, ?_⟩
  · simp [convert, run_underlying Tryz.underlying53, run_underlying Tryz.underlying5, markStringish, hsh]
  · unfold World.freeze
    rw [if_neg (by decide)]
    show (W.heap.modify B _)[B]? = _
    have h' : W.heap[B] = .cells C 5 := by simpa [Array.getElem?_eq_getElem hlt] using h
    rw [Array.getElem?_eq_getElem (by simpa using hlt), Array.getElem_modify_self, h']
    rfl
  · unfold World.freeze
    rw [if_neg (by decide)]
    refine ⟨rfl, rfl, rfl, by simp, fun k hk => ?_⟩
    show (W.heap.modify B _)[k]? = _
    rw [Array.getElem?_modify, if_neg (by omega)]
theorem mrk_of (m0 m1 m2 m3 : BitVec 64) (h : Hid (mrkS = ⟨m0, m1, m2, m3⟩)) (W : World) (B : Nat) (fr : Nat × Nat) (hk : W.heap[B]? = some (.cells #[.int .u8 33, .int .u8 35, .int .u8 36, .int .u8 37, .int .u8 38, .int .u8 39, .int .u8 42, .int .u8 43, .int .u8 45, .int .u8 46, .int .u8 94, .int .u8 95, .int .u8 96, .int .u8 124, .int .u8 126] 5 fr)) :
    Calls Tryz.prog 112 #[.slice (some ⟨B, 0, none⟩) 15 15] W fun e w' => e = .returned (WSet.mk m0 m1 m2 m3).v ∧ Below W.heap.size W w' := by
  have hc := of_any B 0 15 15 mrkF mrkF_lt (by unfold maxLen; omega) W (lt_of_block hk) (fun j hj => by rw [Nat.zero_add, cell_of_row _ _ _ _ _ _ hk]; exact mrk_cell j hj)
  have ht : addTo .empty mrkF 15 = ⟨m0, m1, m2, m3⟩ := h.out
  rw [ht] at hc
  exact hc
def triF (s t u : WSet) : Nat → WSet | 0 => s | 1 => t | _ => u
theorem orTo_tri (s t u : WSet) : orTo .empty (triF s t u) 3 = (s.or t).or u := by
  simp [orTo, triF, WSet.or, WSet.empty]
theorem union3 (x0 x1 x2 x3 y0 y1 y2 y3 z0 z1 z2 z3 a b c d : BitVec 64) (h : Hid (((WSet.mk x0 x1 x2 x3).or (WSet.mk y0 y1 y2 y3)).or (WSet.mk z0 z1 z2 z3) = ⟨a, b, c, d⟩)) (W : World) :
    Calls Tryz.prog 111 #[.slice (some ⟨W.heap.size, 0, none⟩) 3 3] (W.alloc (.cells #[.int .u64 x0.toNat, .int .u64 x1.toNat, .int .u64 x2.toNat, .int .u64 x3.toNat, .int .u64 y0.toNat, .int .u64 y1.toNat, .int .u64 y2.toNat, .int .u64 y3.toNat, .int .u64 z0.toNat, .int .u64 z1.toNat, .int .u64 z2.toNat, .int .u64 z3.toNat] 111)) fun e w' => e = .returned (WSet.mk a b c d).v ∧ Below W.heap.size W w' := by
  refine (union_any W.heap.size 0 3 3 (triF (WSet.mk x0 x1 x2 x3) (WSet.mk y0 y1 y2 y3) (WSet.mk z0 z1 z2 z3)) (by unfold maxLen; omega) _ (by simp) ?_).mono ?_
  · intro j hj i hi
    have hk : (W.alloc (.cells #[.int .u64 x0.toNat, .int .u64 x1.toNat, .int .u64 x2.toNat, .int .u64 x3.toNat, .int .u64 y0.toNat, .int .u64 y1.toNat, .int .u64 y2.toNat, .int .u64 y3.toNat, .int .u64 z0.toNat, .int .u64 z1.toNat, .int .u64 z2.toNat, .int .u64 z3.toNat] 111)).heap[W.heap.size]? = _ := heap_alloc_new W _
    rw [cell_of_row _ _ _ _ _ _ hk]
    match j, hj, i, hi with
    | 0, _, 0, _ => rfl
    | 0, _, 1, _ => rfl
    | 0, _, 2, _ => rfl
    | 0, _, 3, _ => rfl
    | 1, _, 0, _ => rfl
    | 1, _, 1, _ => rfl
    | 1, _, 2, _ => rfl
    | 1, _, 3, _ => rfl
    | 2, _, 0, _ => rfl
    | 2, _, 1, _ => rfl
    | 2, _, 2, _ => rfl
    | 2, _, 3, _ => rfl
  · rintro e w' ⟨rfl, hb⟩
    exact ⟨by rw [orTo_tri, h.out], ((Below.refl _ W).alloc (Nat.le_refl _) _).trans (hb.mono (by simp))⟩
def tokS : WSet := (capS.fold.or digS).or mrkS
set_option maxHeartbeats 4000000 in
theorem tokenSet_any (a b c d : BitVec 64) (HT : Hid (tokS = ⟨a, b, c, d⟩)) (w : World) :
    Calls Tryz.prog 108 #[] w fun e w' => e = .returned (WSet.mk a b c d).v ∧ Below w.heap.size w w' := by
  obtain ⟨a0, a1, a2, a3, h0⟩ : ∃ a0 a1 a2 a3, Hid (capS = ⟨a0, a1, a2, a3⟩) := ⟨_, _, _, _, Lib.hid rfl⟩
  obtain ⟨e0, e1, e2, e3, h1⟩ : ∃ a0 a1 a2 a3, Hid (capS.fold = ⟨a0, a1, a2, a3⟩) := ⟨_, _, _, _, Lib.hid rfl⟩
  obtain ⟨i0, i1, i2, i3, h2⟩ : ∃ a0 a1 a2 a3, Hid (digS = ⟨a0, a1, a2, a3⟩) := ⟨_, _, _, _, Lib.hid rfl⟩
  obtain ⟨m0, m1, m2, m3, h3⟩ : ∃ a0 a1 a2 a3, Hid (mrkS = ⟨a0, a1, a2, a3⟩) := ⟨_, _, _, _, Lib.hid rfl⟩
  have HF : Hid ((WSet.mk a0 a1 a2 a3).fold = ⟨e0, e1, e2, e3⟩) := Lib.hid (by rw [← h0.out]; exact h1.out)
  have HC : Hid (∀ W, Calls Tryz.prog 115 #[] W fun e w' => e = .returned (WSet.mk a0 a1 a2 a3).v ∧ Below W.heap.size W w') := Lib.hid fun W => capitalSet_any a0 a1 a2 a3 h0 W
  have HS : Hid (∀ W, Calls Tryz.prog 113 #[.int .u8 48, .int .u8 57] W fun e w' => e = .returned (WSet.mk i0 i1 i2 i3).v ∧ Below W.heap.size W w') := Lib.hid fun W => by
    have h := tspan_any 48 57 (by omega) (by omega) (by omega) W
    have ht : spanTo 48 (57 + 1 - 48) = ⟨i0, i1, i2, i3⟩ := h2.out
    rw [ht] at h
    exact h
  have HM : Hid (∀ (W : World) (B : Nat) (fr : Nat × Nat), W.heap[B]? = some (.cells #[.int .u8 33, .int .u8 35, .int .u8 36, .int .u8 37, .int .u8 38, .int .u8 39, .int .u8 42, .int .u8 43, .int .u8 45, .int .u8 46, .int .u8 94, .int .u8 95, .int .u8 96, .int .u8 124, .int .u8 126] 5 fr) → Calls Tryz.prog 112 #[.slice (some ⟨B, 0, none⟩) 15 15] W fun e w' => e = .returned (WSet.mk m0 m1 m2 m3).v ∧ Below W.heap.size W w') := Lib.hid fun W B fr hk => mrk_of m0 m1 m2 m3 h3 W B fr hk
  have hU : ((WSet.mk e0 e1 e2 e3).or (WSet.mk i0 i1 i2 i3)).or (WSet.mk m0 m1 m2 m3) = ⟨a, b, c, d⟩ := by rw [← h1.out, ← h2.out, ← h3.out]; exact HT.out
  have HU := Lib.hid fun W => union3 _ _ _ _ _ _ _ _ _ _ _ _ a b c d (Lib.hid hU) W
  clear hU h0 h1 h2 h3 HT
  go_enter Tryz.func108, Tryz.ntmps108
  go_wp2_with fail
  refine (HC.out _).mono ?_
  rintro e w1 ⟨rfl, hb⟩
  have b0 := (Blk.new0 w).below hb (by simp)
  have hB1 := ((Below.refl _ w).alloc (Nat.le_refl _) (.cells #[.int .u64 0, .int .u64 0, .int .u64 0, .int .u64 0] 111)).trans (hb.mono (by simp))
  clear hb
  go_wp2_with fail
  refine (fold_any _ _ _ _ _).mono ?_
  rintro e w2 ⟨rfl, hb⟩
  rw [HF.out]
  have b0 := b0.below hb b0.lt
  have hB2 := hB1.trans (hb.mono hB1.size)
  clear hb hB1
  go_upto_region 2 with fail
  have bL := Blk.new w2 ⟨e0, e1, e2, e3⟩
  have hB2lt := b0.lt
  have b0 := b0.alloc (.cells #[.int .u64 e0.toNat, .int .u64 e1.toNat, .int .u64 e2.toNat, .int .u64 e3.toNat] 111)
  have hB2 := hB2.alloc hB2.size (.cells #[.int .u64 e0.toNat, .int .u64 e1.toNat, .int .u64 e2.toNat, .int .u64 e3.toNat] 111)
  have hne := Nat.ne_of_lt hB2lt
  obtain ⟨L, hL⟩ : ∃ L, w2.heap.size = L := ⟨_, rfl⟩
  obtain ⟨V, hV⟩ : ∃ V, w2.alloc (.cells #[.int .u64 e0.toNat, .int .u64 e1.toNat, .int .u64 e2.toNat, .int .u64 e3.toNat] 111) = V := ⟨_, rfl⟩
  rw [hL] at bL hne ⊢
  rw [hV] at bL b0 hB2 ⊢
  clear hV hL
  obtain ⟨c0, c1, c2, c3⟩ := bL.cells4
  have kc2 : ∀ (w : World) (C : Array Value) (n c : Nat), (convert 53 53 (.slice (some ⟨w.heap.size, 0, none⟩) n c)).run Tryz.prog (w.alloc (.cells C 5)).drew = .ok (.slice (some ⟨w.heap.size, 0, none⟩) n c) (w.alloc (.cells C 5 (C.size, C.size + 1))).drew := fun w C n c => Lib.run_convert_bytes_const (P := Tryz.prog) w.drew 53 5 C n c Tryz.underlying53 Tryz.underlying5
  have kc := fun (w : World) (C : Array Value) (n c : Nat) => Lib.run_convert_bytes_const (P := Tryz.prog) w 53 5 C n c Tryz.underlying53 Tryz.underlying5
  have lV := b0.lt
  have lL := bL.lt
  obtain ⟨ka0, ka1, ka2, ka3⟩ := (bL.alloc (.cells #[.int .u8 33, .int .u8 35, .int .u8 36, .int .u8 37, .int .u8 38, .int .u8 39, .int .u8 42, .int .u8 43, .int .u8 45, .int .u8 46, .int .u8 94, .int .u8 95, .int .u8 96, .int .u8 124, .int .u8 126] 5 (15, 16))).drew.cells4
  obtain ⟨kb0, kb1, kb2, kb3⟩ := (bL.alloc (.cells #[.int .u8 33, .int .u8 35, .int .u8 36, .int .u8 37, .int .u8 38, .int .u8 39, .int .u8 42, .int .u8 43, .int .u8 45, .int .u8 46, .int .u8 94, .int .u8 95, .int .u8 96, .int .u8 124, .int .u8 126] 5)).drew.cells4
  have HV0 : Hid (Below V.heap.size V V.drew) := Lib.hid (Below.refl _ V).drew
  have HV1 : Hid (Below V.heap.size V (V.alloc (.cells #[.int .u8 33, .int .u8 35, .int .u8 36, .int .u8 37, .int .u8 38, .int .u8 39, .int .u8 42, .int .u8 43, .int .u8 45, .int .u8 46, .int .u8 94, .int .u8 95, .int .u8 96, .int .u8 124, .int .u8 126] 5)).drew) := Lib.hid ((Below.refl _ V).alloc (Nat.le_refl _) _).drew
  have HV2 : Hid (Below V.heap.size V (V.alloc (.cells #[.int .u8 33, .int .u8 35, .int .u8 36, .int .u8 37, .int .u8 38, .int .u8 39, .int .u8 42, .int .u8 43, .int .u8 45, .int .u8 46, .int .u8 94, .int .u8 95, .int .u8 96, .int .u8 124, .int .u8 126] 5 (15, 16))).drew) := Lib.hid ((Below.refl _ V).alloc (Nat.le_refl _) _).drew
  have KS : Hid (∀ wx, Below V.heap.size V wx → wx.cell? ⟨L, 0, none⟩ = some (.int .u64 (e0.toNat : Int)) ∧ wx.cell? ⟨L, 1, none⟩ = some (.int .u64 (e1.toNat : Int)) ∧ wx.cell? ⟨L, 2, none⟩ = some (.int .u64 (e2.toNat : Int)) ∧ wx.cell? ⟨L, 3, none⟩ = some (.int .u64 (e3.toNat : Int))) := Lib.hid fun wx h => (bL.below h lL).cells4
  refine wp_region_noPanic ?_
  refine wp_region_held_drew (S := fun wx => wx.cell? ⟨L, 0, none⟩ = some (.int .u64 (e0.toNat : Int)) ∧ wx.cell? ⟨L, 1, none⟩ = some (.int .u64 (e1.toNat : Int)) ∧ wx.cell? ⟨L, 2, none⟩ = some (.int .u64 (e2.toNat : Int)) ∧ wx.cell? ⟨L, 3, none⟩ = some (.int .u64 (e3.toNat : Int))) (by kernel_rfl) ?_ (fun hHeld => ?_)
  focus ((try dsimp only); (refine KS.out _ ?_; repeat' (first | (with_reducible exact Nat.le_refl _) | (with_reducible exact hV6.size) | (with_reducible assumption) | (with_reducible exact Below.refl _ _) | (with_reducible refine Below.drew ?_) | (with_reducible refine Below.alloc ?_ ?_ _) | (refine Below.size (B := V.heap.size) ?_; with_reducible assumption) | (have hsz := Below.size hV5; simp only [World.drew, World.alloc, Array.size_push] at hsz ⊢; omega) | (have hsz := hHeld.1.size; simp only [World.drew, World.alloc, Array.size_push] at hsz ⊢; omega))))
  try simp only [Act.put, List.setIfInBounds_toArray, List.set_cons_zero, List.set_cons_succ]
  refine wpAnyH_take (i := 0) (oi := { dst := some 4, op := Go.Op.load 111 (Go.Operand.tmp 1), type := 111, pos := "token.go:39", after := #[], guard := none }) (v := ?_) rfl (by kernel_rfl) (by kernel_rfl) (by kernel_rfl) (fun _ _ _ h => h) (Or.inl ⟨by rfl, ?_⟩) (by assumption) ?_
  rotate_left
  focus ((intro w hSw; (try dsimp only at hSw); go_simp) <;> (with_reducible rfl))
  try simp only [Act.put, List.setIfInBounds_toArray, List.set_cons_zero, List.set_cons_succ]
  refine wpAnyH_ready (rs := [1, 2]) (by kernel_rfl) (by simp) ?_
  refine (AllReadyH.cons (o := { dst := some 5, op := Go.Op.call { callee := Go.Callee.value (Go.Operand.func 113), args := #[Go.Operand.const (Go.Value.int Go.IntKind.u8 48), Go.Operand.const (Go.Value.int Go.IntKind.u8 57)], argTypes := #[5, 5] }, type := 111, pos := "token.go:39", after := #[], guard := none }) rfl (fun K hK => ?_) (AllReadyH.cons (o := { dst := some 6, op := Go.Op.buildSlice 53 15 #[(0, Go.Operand.const (Go.Value.int Go.IntKind.u8 33)), (1, Go.Operand.const (Go.Value.int Go.IntKind.u8 35)), (2, Go.Operand.const (Go.Value.int Go.IntKind.u8 36)), (3, Go.Operand.const (Go.Value.int Go.IntKind.u8 37)), (4, Go.Operand.const (Go.Value.int Go.IntKind.u8 38)), (5, Go.Operand.const (Go.Value.int Go.IntKind.u8 39)), (6, Go.Operand.const (Go.Value.int Go.IntKind.u8 42)), (7, Go.Operand.const (Go.Value.int Go.IntKind.u8 43)), (8, Go.Operand.const (Go.Value.int Go.IntKind.u8 45)), (9, Go.Operand.const (Go.Value.int Go.IntKind.u8 46)), (10, Go.Operand.const (Go.Value.int Go.IntKind.u8 94)), (11, Go.Operand.const (Go.Value.int Go.IntKind.u8 95)), (12, Go.Operand.const (Go.Value.int Go.IntKind.u8 96)), (13, Go.Operand.const (Go.Value.int Go.IntKind.u8 124)), (14, Go.Operand.const (Go.Value.int Go.IntKind.u8 126))], type := 53, pos := "token.go:39", after := #[], guard := none }) rfl (fun K hK => ?_) AllReadyH.nil))
  · go_simp
    refine (HS.out _).mono ?_; rintro e w5 ⟨rfl, hb5⟩; have hV5 : Below V.heap.size V w5 := HV0.out.trans hb5
    first | (go_wp2_with fail) | skip
    refine hK.out _ _ ?_ (fun hNew => ?_)
    focus ((try dsimp only); (refine KS.out _ ?_; repeat' (first | (with_reducible exact Nat.le_refl _) | (with_reducible exact hV6.size) | (with_reducible assumption) | (with_reducible exact Below.refl _ _) | (with_reducible refine Below.drew ?_) | (with_reducible refine Below.alloc ?_ ?_ _) | (refine Below.size (B := V.heap.size) ?_; with_reducible assumption) | (have hsz := Below.size hV5; simp only [World.drew, World.alloc, Array.size_push] at hsz ⊢; omega) | (have hsz := hHeld.1.size; simp only [World.drew, World.alloc, Array.size_push] at hsz ⊢; omega))))
    clear hK K hHeld
    have hHeld := hNew
    clear hNew
    try simp only [Act.put, List.setIfInBounds_toArray, List.set_cons_zero, List.set_cons_succ]
    refine wpAnyH_ready (rs := [2]) (by kernel_rfl) (by simp) ?_
    refine (AllReadyH.cons (o := { dst := some 6, op := Go.Op.buildSlice 53 15 #[(0, Go.Operand.const (Go.Value.int Go.IntKind.u8 33)), (1, Go.Operand.const (Go.Value.int Go.IntKind.u8 35)), (2, Go.Operand.const (Go.Value.int Go.IntKind.u8 36)), (3, Go.Operand.const (Go.Value.int Go.IntKind.u8 37)), (4, Go.Operand.const (Go.Value.int Go.IntKind.u8 38)), (5, Go.Operand.const (Go.Value.int Go.IntKind.u8 39)), (6, Go.Operand.const (Go.Value.int Go.IntKind.u8 42)), (7, Go.Operand.const (Go.Value.int Go.IntKind.u8 43)), (8, Go.Operand.const (Go.Value.int Go.IntKind.u8 45)), (9, Go.Operand.const (Go.Value.int Go.IntKind.u8 46)), (10, Go.Operand.const (Go.Value.int Go.IntKind.u8 94)), (11, Go.Operand.const (Go.Value.int Go.IntKind.u8 95)), (12, Go.Operand.const (Go.Value.int Go.IntKind.u8 96)), (13, Go.Operand.const (Go.Value.int Go.IntKind.u8 124)), (14, Go.Operand.const (Go.Value.int Go.IntKind.u8 126))], type := 53, pos := "token.go:39", after := #[], guard := none }) rfl (fun K hK => ?_) AllReadyH.nil)
    go_simp
    refine hK.out _ _ ?_ (fun hNew => ?_)
    focus ((try dsimp only); (refine KS.out _ ?_; repeat' (first | (with_reducible exact Nat.le_refl _) | (with_reducible exact hV6.size) | (with_reducible assumption) | (with_reducible exact Below.refl _ _) | (with_reducible refine Below.drew ?_) | (with_reducible refine Below.alloc ?_ ?_ _) | (refine Below.size (B := V.heap.size) ?_; with_reducible assumption) | (have hsz := Below.size hV5; simp only [World.drew, World.alloc, Array.size_push] at hsz ⊢; omega) | (have hsz := hHeld.1.size; simp only [World.drew, World.alloc, Array.size_push] at hsz ⊢; omega))))
    clear hK K hHeld
    have hHeld := hNew
    clear hNew
    try simp only [Act.put, List.setIfInBounds_toArray, List.set_cons_zero, List.set_cons_succ]
    refine wpAnyH_ready (rs := [3]) (by kernel_rfl) (by simp) ?_
    refine (AllReadyH.cons (o := { dst := some 7, op := Go.Op.convert 53 53 (Go.Operand.tmp 6), type := 53, pos := "token.go:39", after := #[{ on := 2, ground := Go.Ground.data }], guard := none }) rfl (fun K hK => ?_) AllReadyH.nil)
    go_simp
    refine hK.out _ _ ?_ (fun hNew => ?_)
    focus ((try dsimp only); (refine KS.out _ ?_; repeat' (first | (with_reducible exact Nat.le_refl _) | (with_reducible exact hV6.size) | (with_reducible assumption) | (with_reducible exact Below.refl _ _) | (with_reducible refine Below.drew ?_) | (with_reducible refine Below.alloc ?_ ?_ _) | (refine Below.size (B := V.heap.size) ?_; with_reducible assumption) | (have hsz := Below.size hV5; simp only [World.drew, World.alloc, Array.size_push] at hsz ⊢; omega) | (have hsz := hHeld.1.size; simp only [World.drew, World.alloc, Array.size_push] at hsz ⊢; omega))))
    clear hK K hHeld
    have hHeld := hNew
    clear hNew
    try simp only [Act.put, List.setIfInBounds_toArray, List.set_cons_zero, List.set_cons_succ]
    refine wpAnyH_ready (rs := [4]) (by kernel_rfl) (by simp) ?_
    refine (AllReadyH.cons (o := { dst := some 8, op := Go.Op.call { callee := Go.Callee.value (Go.Operand.func 112), args := #[Go.Operand.tmp 7], argTypes := #[53] }, type := 111, pos := "token.go:39", after := #[{ on := 3, ground := Go.Ground.data }, { on := 1, ground := Go.Ground.chain }], guard := none }) rfl (fun K hK => ?_) AllReadyH.nil)
    go_simp
    refine (HM.out _ _ _ (heap_alloc_new _ _)).mono ?_; rintro e w6 ⟨rfl, hb6⟩; have hV6 : Below V.heap.size V w6 := (hV5.alloc hV5.size _).trans (hb6.mono (by have := hV5.size; simp; omega))
    first | (go_wp2_with fail) | skip
    refine hK.out _ _ ?_ (fun hNew => ?_)
    focus ((try dsimp only); (refine KS.out _ ?_; repeat' (first | (with_reducible exact Nat.le_refl _) | (with_reducible exact hV6.size) | (with_reducible assumption) | (with_reducible exact Below.refl _ _) | (with_reducible refine Below.drew ?_) | (with_reducible refine Below.alloc ?_ ?_ _) | (refine Below.size (B := V.heap.size) ?_; with_reducible assumption) | (have hsz := Below.size hV5; simp only [World.drew, World.alloc, Array.size_push] at hsz ⊢; omega) | (have hsz := hHeld.1.size; simp only [World.drew, World.alloc, Array.size_push] at hsz ⊢; omega))))
    clear hK K hHeld
    have hHeld := hNew
    clear hNew
    try simp only [Act.put, List.setIfInBounds_toArray, List.set_cons_zero, List.set_cons_succ]
    refine wpAnyH_ready (rs := [5]) (by kernel_rfl) (by simp) ?_
    refine (AllReadyH.cons (o := { dst := some 9, op := Go.Op.buildSlice 124 3 #[(0, Go.Operand.tmp 4), (1, Go.Operand.tmp 5), (2, Go.Operand.tmp 8)], type := 124, pos := "token.go:39", after := #[{ on := 0, ground := Go.Ground.data }, { on := 1, ground := Go.Ground.data }, { on := 4, ground := Go.Ground.data }], guard := none }) rfl (fun K hK => ?_) AllReadyH.nil)
    go_simp
    refine hK.out _ _ ?_ (fun hNew => ?_)
    focus ((try dsimp only); (refine KS.out _ ?_; repeat' (first | (with_reducible exact Nat.le_refl _) | (with_reducible exact hV6.size) | (with_reducible assumption) | (with_reducible exact Below.refl _ _) | (with_reducible refine Below.drew ?_) | (with_reducible refine Below.alloc ?_ ?_ _) | (refine Below.size (B := V.heap.size) ?_; with_reducible assumption) | (have hsz := Below.size hV5; simp only [World.drew, World.alloc, Array.size_push] at hsz ⊢; omega) | (have hsz := hHeld.1.size; simp only [World.drew, World.alloc, Array.size_push] at hsz ⊢; omega))))
    clear hK K hHeld
    have hHeld := hNew
    clear hNew
    try simp only [Act.put, List.setIfInBounds_toArray, List.set_cons_zero, List.set_cons_succ]
    refine wpAnyH_ready (rs := [6]) (by kernel_rfl) (by simp) ?_
    refine (AllReadyH.cons (o := { dst := some 10, op := Go.Op.call { callee := Go.Callee.value (Go.Operand.func 111), args := #[Go.Operand.tmp 9], argTypes := #[124] }, type := 111, pos := "token.go:39", after := #[{ on := 5, ground := Go.Ground.data }, { on := 4, ground := Go.Ground.chain }], guard := none }) rfl (fun K hK => ?_) AllReadyH.nil)
    go_simp
    refine (HU.out _).mono ?_; rintro e w7 ⟨rfl, hb7⟩; have hV7 := hV6.trans (hb7.mono hV6.size); have bz := b0.below hV7 lV; obtain ⟨d0, d1, d2, d3⟩ := bz.cells; obtain ⟨f0, f1, f2, f3⟩ := bz.frees
    first | (go_wp2_with fail) | skip
    refine hK.out _ _ ?_ (fun hNew => ?_)
    focus ((try dsimp only); (refine KS.out _ ?_; repeat' (first | (with_reducible exact Nat.le_refl _) | (with_reducible exact hV6.size) | (with_reducible assumption) | (with_reducible exact Below.refl _ _) | (with_reducible refine Below.drew ?_) | (with_reducible refine Below.alloc ?_ ?_ _) | (refine Below.size (B := V.heap.size) ?_; with_reducible assumption) | (have hsz := Below.size hV5; simp only [World.drew, World.alloc, Array.size_push] at hsz ⊢; omega) | (have hsz := hHeld.1.size; simp only [World.drew, World.alloc, Array.size_push] at hsz ⊢; omega))))
    clear hK K hHeld
    have hHeld := hNew
    clear hNew
    try simp only [Act.put, List.setIfInBounds_toArray, List.set_cons_zero, List.set_cons_succ]
    refine wpAnyH_ready (rs := [7]) (by kernel_rfl) (by simp) ?_
    refine (AllReadyH.cons (o := { dst := none, op := Go.Op.store 111 (Go.Operand.tmp 0) (Go.Operand.tmp 10), type := 0, pos := "token.go:39", after := #[{ on := 6, ground := Go.Ground.data }, { on := 6, ground := Go.Ground.chain }, { on := 0, ground := Go.Ground.phase }, { on := 1, ground := Go.Ground.phase }, { on := 2, ground := Go.Ground.phase }, { on := 3, ground := Go.Ground.phase }, { on := 4, ground := Go.Ground.phase }, { on := 5, ground := Go.Ground.phase }, { on := 6, ground := Go.Ground.phase }], guard := none }) rfl (fun K hK => ?_) AllReadyH.nil)
    go_simp
    refine hK.out _ _ ?_ (fun hNew => ?_)
    focus ((try dsimp only); exact (((((bL.below hV7 lL).other _ hne _).other _ hne _).other _ hne _).other _ hne _).cells4)
    clear hK K hHeld
    have hHeld := hNew
    clear hNew
    try simp only [Act.put, List.setIfInBounds_toArray, List.set_cons_zero, List.set_cons_succ]
    refine wpAnyH_done (by kernel_rfl) ?_ _
    refine NoPanic.normal ?_
    go_wp2_with fail
    exact bodyPost_ret ((bz.store4 a b c d).results rfl _ rfl) rfl ⟨rfl, Blk.below4 a b c d (hB2.trans (hV7.mono hB2.size)) (Nat.le_refl _)⟩
  · go_simp
    refine hK.out _ _ ?_ (fun hNew => ?_)
    focus ((try dsimp only); (refine KS.out _ ?_; repeat' (first | (with_reducible exact Nat.le_refl _) | (with_reducible exact hV6.size) | (with_reducible assumption) | (with_reducible exact Below.refl _ _) | (with_reducible refine Below.drew ?_) | (with_reducible refine Below.alloc ?_ ?_ _) | (refine Below.size (B := V.heap.size) ?_; with_reducible assumption) | (have hsz := Below.size hV5; simp only [World.drew, World.alloc, Array.size_push] at hsz ⊢; omega) | (have hsz := hHeld.1.size; simp only [World.drew, World.alloc, Array.size_push] at hsz ⊢; omega))))
    clear hK K hHeld
    have hHeld := hNew
    clear hNew
    try simp only [Act.put, List.setIfInBounds_toArray, List.set_cons_zero, List.set_cons_succ]
    refine wpAnyH_ready (rs := [1, 3]) (by kernel_rfl) (by simp) ?_
    refine (AllReadyH.cons (o := { dst := some 5, op := Go.Op.call { callee := Go.Callee.value (Go.Operand.func 113), args := #[Go.Operand.const (Go.Value.int Go.IntKind.u8 48), Go.Operand.const (Go.Value.int Go.IntKind.u8 57)], argTypes := #[5, 5] }, type := 111, pos := "token.go:39", after := #[], guard := none }) rfl (fun K hK => ?_) (AllReadyH.cons (o := { dst := some 7, op := Go.Op.convert 53 53 (Go.Operand.tmp 6), type := 53, pos := "token.go:39", after := #[{ on := 2, ground := Go.Ground.data }], guard := none }) rfl (fun K hK => ?_) AllReadyH.nil))
    · go_simp
      refine (HS.out _).mono ?_; rintro e w5 ⟨rfl, hb5⟩; have hm : w5.heap[V.heap.size]? = some (.cells #[.int .u8 33, .int .u8 35, .int .u8 36, .int .u8 37, .int .u8 38, .int .u8 39, .int .u8 42, .int .u8 43, .int .u8 45, .int .u8 46, .int .u8 94, .int .u8 95, .int .u8 96, .int .u8 124, .int .u8 126] 5) := (hb5.block _ (by simp)).trans (heap_alloc_new V _); have hV5 : Below V.heap.size V w5 := HV1.out.trans (Below.mono hb5 (by simp)); obtain ⟨X, hX, hXm, hXb⟩ := conv_at 15 15 hm; have hVX := hV5.trans hXb
      first | (go_wp2_with fail) | skip
      refine hK.out _ _ ?_ (fun hNew => ?_)
      focus ((try dsimp only); (refine KS.out _ ?_; repeat' (first | (with_reducible exact Nat.le_refl _) | (with_reducible exact hV6.size) | (with_reducible assumption) | (with_reducible exact Below.refl _ _) | (with_reducible refine Below.drew ?_) | (with_reducible refine Below.alloc ?_ ?_ _) | (refine Below.size (B := V.heap.size) ?_; with_reducible assumption) | (have hsz := Below.size hV5; simp only [World.drew, World.alloc, Array.size_push] at hsz ⊢; omega) | (have hsz := hHeld.1.size; simp only [World.drew, World.alloc, Array.size_push] at hsz ⊢; omega))))
      clear hK K hHeld
      have hHeld := hNew
      clear hNew
      try simp only [Act.put, List.setIfInBounds_toArray, List.set_cons_zero, List.set_cons_succ]
      refine wpAnyH_ready (rs := [3]) (by kernel_rfl) (by simp) ?_
      refine (AllReadyH.cons (o := { dst := some 7, op := Go.Op.convert 53 53 (Go.Operand.tmp 6), type := 53, pos := "token.go:39", after := #[{ on := 2, ground := Go.Ground.data }], guard := none }) rfl (fun K hK => ?_) AllReadyH.nil)
      go_simp
      refine hK.out _ _ ?_ (fun hNew => ?_)
      focus ((try dsimp only); (refine KS.out _ ?_; repeat' (first | (with_reducible exact Nat.le_refl _) | (with_reducible exact hV6.size) | (with_reducible assumption) | (with_reducible exact Below.refl _ _) | (with_reducible refine Below.drew ?_) | (with_reducible refine Below.alloc ?_ ?_ _) | (refine Below.size (B := V.heap.size) ?_; with_reducible assumption) | (have hsz := Below.size hV5; simp only [World.drew, World.alloc, Array.size_push] at hsz ⊢; omega) | (have hsz := hHeld.1.size; simp only [World.drew, World.alloc, Array.size_push] at hsz ⊢; omega))))
      clear hK K hHeld
      have hHeld := hNew
      clear hNew
      try simp only [Act.put, List.setIfInBounds_toArray, List.set_cons_zero, List.set_cons_succ]
      refine wpAnyH_ready (rs := [4]) (by kernel_rfl) (by simp) ?_
      refine (AllReadyH.cons (o := { dst := some 8, op := Go.Op.call { callee := Go.Callee.value (Go.Operand.func 112), args := #[Go.Operand.tmp 7], argTypes := #[53] }, type := 111, pos := "token.go:39", after := #[{ on := 3, ground := Go.Ground.data }, { on := 1, ground := Go.Ground.chain }], guard := none }) rfl (fun K hK => ?_) AllReadyH.nil)
      go_simp
      refine (HM.out _ _ _ hXm).mono ?_; rintro e w6 ⟨rfl, hb6⟩; have hV6 : Below V.heap.size V w6 := hVX.trans (hb6.mono hVX.size)
      first | (go_wp2_with fail) | skip
      refine hK.out _ _ ?_ (fun hNew => ?_)
      focus ((try dsimp only); (refine KS.out _ ?_; repeat' (first | (with_reducible exact Nat.le_refl _) | (with_reducible exact hV6.size) | (with_reducible assumption) | (with_reducible exact Below.refl _ _) | (with_reducible refine Below.drew ?_) | (with_reducible refine Below.alloc ?_ ?_ _) | (refine Below.size (B := V.heap.size) ?_; with_reducible assumption) | (have hsz := Below.size hV5; simp only [World.drew, World.alloc, Array.size_push] at hsz ⊢; omega) | (have hsz := hHeld.1.size; simp only [World.drew, World.alloc, Array.size_push] at hsz ⊢; omega))))
      clear hK K hHeld
      have hHeld := hNew
      clear hNew
      try simp only [Act.put, List.setIfInBounds_toArray, List.set_cons_zero, List.set_cons_succ]
      refine wpAnyH_ready (rs := [5]) (by kernel_rfl) (by simp) ?_
      refine (AllReadyH.cons (o := { dst := some 9, op := Go.Op.buildSlice 124 3 #[(0, Go.Operand.tmp 4), (1, Go.Operand.tmp 5), (2, Go.Operand.tmp 8)], type := 124, pos := "token.go:39", after := #[{ on := 0, ground := Go.Ground.data }, { on := 1, ground := Go.Ground.data }, { on := 4, ground := Go.Ground.data }], guard := none }) rfl (fun K hK => ?_) AllReadyH.nil)
      go_simp
      refine hK.out _ _ ?_ (fun hNew => ?_)
      focus ((try dsimp only); (refine KS.out _ ?_; repeat' (first | (with_reducible exact Nat.le_refl _) | (with_reducible exact hV6.size) | (with_reducible assumption) | (with_reducible exact Below.refl _ _) | (with_reducible refine Below.drew ?_) | (with_reducible refine Below.alloc ?_ ?_ _) | (refine Below.size (B := V.heap.size) ?_; with_reducible assumption) | (have hsz := Below.size hV5; simp only [World.drew, World.alloc, Array.size_push] at hsz ⊢; omega) | (have hsz := hHeld.1.size; simp only [World.drew, World.alloc, Array.size_push] at hsz ⊢; omega))))
      clear hK K hHeld
      have hHeld := hNew
      clear hNew
      try simp only [Act.put, List.setIfInBounds_toArray, List.set_cons_zero, List.set_cons_succ]
      refine wpAnyH_ready (rs := [6]) (by kernel_rfl) (by simp) ?_
      refine (AllReadyH.cons (o := { dst := some 10, op := Go.Op.call { callee := Go.Callee.value (Go.Operand.func 111), args := #[Go.Operand.tmp 9], argTypes := #[124] }, type := 111, pos := "token.go:39", after := #[{ on := 5, ground := Go.Ground.data }, { on := 4, ground := Go.Ground.chain }], guard := none }) rfl (fun K hK => ?_) AllReadyH.nil)
      go_simp
      refine (HU.out _).mono ?_; rintro e w7 ⟨rfl, hb7⟩; have hV7 := hV6.trans (hb7.mono hV6.size); have bz := b0.below hV7 lV; obtain ⟨d0, d1, d2, d3⟩ := bz.cells; obtain ⟨f0, f1, f2, f3⟩ := bz.frees
      first | (go_wp2_with fail) | skip
      refine hK.out _ _ ?_ (fun hNew => ?_)
      focus ((try dsimp only); (refine KS.out _ ?_; repeat' (first | (with_reducible exact Nat.le_refl _) | (with_reducible exact hV6.size) | (with_reducible assumption) | (with_reducible exact Below.refl _ _) | (with_reducible refine Below.drew ?_) | (with_reducible refine Below.alloc ?_ ?_ _) | (refine Below.size (B := V.heap.size) ?_; with_reducible assumption) | (have hsz := Below.size hV5; simp only [World.drew, World.alloc, Array.size_push] at hsz ⊢; omega) | (have hsz := hHeld.1.size; simp only [World.drew, World.alloc, Array.size_push] at hsz ⊢; omega))))
      clear hK K hHeld
      have hHeld := hNew
      clear hNew
      try simp only [Act.put, List.setIfInBounds_toArray, List.set_cons_zero, List.set_cons_succ]
      refine wpAnyH_ready (rs := [7]) (by kernel_rfl) (by simp) ?_
      refine (AllReadyH.cons (o := { dst := none, op := Go.Op.store 111 (Go.Operand.tmp 0) (Go.Operand.tmp 10), type := 0, pos := "token.go:39", after := #[{ on := 6, ground := Go.Ground.data }, { on := 6, ground := Go.Ground.chain }, { on := 0, ground := Go.Ground.phase }, { on := 1, ground := Go.Ground.phase }, { on := 2, ground := Go.Ground.phase }, { on := 3, ground := Go.Ground.phase }, { on := 4, ground := Go.Ground.phase }, { on := 5, ground := Go.Ground.phase }, { on := 6, ground := Go.Ground.phase }], guard := none }) rfl (fun K hK => ?_) AllReadyH.nil)
      go_simp
      refine hK.out _ _ ?_ (fun hNew => ?_)
      focus ((try dsimp only); exact (((((bL.below hV7 lL).other _ hne _).other _ hne _).other _ hne _).other _ hne _).cells4)
      clear hK K hHeld
      have hHeld := hNew
      clear hNew
      try simp only [Act.put, List.setIfInBounds_toArray, List.set_cons_zero, List.set_cons_succ]
      refine wpAnyH_done (by kernel_rfl) ?_ _
      refine NoPanic.normal ?_
      go_wp2_with fail
      exact bodyPost_ret ((bz.store4 a b c d).results rfl _ rfl) rfl ⟨rfl, Blk.below4 a b c d (hB2.trans (hV7.mono hB2.size)) (Nat.le_refl _)⟩
    · go_simp
      refine hK.out _ _ ?_ (fun hNew => ?_)
      focus ((try dsimp only); (refine KS.out _ ?_; repeat' (first | (with_reducible exact Nat.le_refl _) | (with_reducible exact hV6.size) | (with_reducible assumption) | (with_reducible exact Below.refl _ _) | (with_reducible refine Below.drew ?_) | (with_reducible refine Below.alloc ?_ ?_ _) | (refine Below.size (B := V.heap.size) ?_; with_reducible assumption) | (have hsz := Below.size hV5; simp only [World.drew, World.alloc, Array.size_push] at hsz ⊢; omega) | (have hsz := hHeld.1.size; simp only [World.drew, World.alloc, Array.size_push] at hsz ⊢; omega))))
      clear hK K hHeld
      have hHeld := hNew
      clear hNew
      try simp only [Act.put, List.setIfInBounds_toArray, List.set_cons_zero, List.set_cons_succ]
      refine wpAnyH_ready (rs := [1]) (by kernel_rfl) (by simp) ?_
      refine (AllReadyH.cons (o := { dst := some 5, op := Go.Op.call { callee := Go.Callee.value (Go.Operand.func 113), args := #[Go.Operand.const (Go.Value.int Go.IntKind.u8 48), Go.Operand.const (Go.Value.int Go.IntKind.u8 57)], argTypes := #[5, 5] }, type := 111, pos := "token.go:39", after := #[], guard := none }) rfl (fun K hK => ?_) AllReadyH.nil)
      go_simp
      refine (HS.out _).mono ?_; rintro e w5 ⟨rfl, hb5⟩; have hm : w5.heap[V.heap.size]? = some (.cells #[.int .u8 33, .int .u8 35, .int .u8 36, .int .u8 37, .int .u8 38, .int .u8 39, .int .u8 42, .int .u8 43, .int .u8 45, .int .u8 46, .int .u8 94, .int .u8 95, .int .u8 96, .int .u8 124, .int .u8 126] 5 (15, 16)) := (hb5.block _ (by simp)).trans (heap_alloc_new V _); have hV5 : Below V.heap.size V w5 := HV2.out.trans (Below.mono hb5 (by simp))
      first | (go_wp2_with fail) | skip
      refine hK.out _ _ ?_ (fun hNew => ?_)
      focus ((try dsimp only); (refine KS.out _ ?_; repeat' (first | (with_reducible exact Nat.le_refl _) | (with_reducible exact hV6.size) | (with_reducible assumption) | (with_reducible exact Below.refl _ _) | (with_reducible refine Below.drew ?_) | (with_reducible refine Below.alloc ?_ ?_ _) | (refine Below.size (B := V.heap.size) ?_; with_reducible assumption) | (have hsz := Below.size hV5; simp only [World.drew, World.alloc, Array.size_push] at hsz ⊢; omega) | (have hsz := hHeld.1.size; simp only [World.drew, World.alloc, Array.size_push] at hsz ⊢; omega))))
      clear hK K hHeld
      have hHeld := hNew
      clear hNew
      try simp only [Act.put, List.setIfInBounds_toArray, List.set_cons_zero, List.set_cons_succ]
      refine wpAnyH_ready (rs := [4]) (by kernel_rfl) (by simp) ?_
      refine (AllReadyH.cons (o := { dst := some 8, op := Go.Op.call { callee := Go.Callee.value (Go.Operand.func 112), args := #[Go.Operand.tmp 7], argTypes := #[53] }, type := 111, pos := "token.go:39", after := #[{ on := 3, ground := Go.Ground.data }, { on := 1, ground := Go.Ground.chain }], guard := none }) rfl (fun K hK => ?_) AllReadyH.nil)
      go_simp
      refine (HM.out _ _ _ hm).mono ?_; rintro e w6 ⟨rfl, hb6⟩; have hV6 : Below V.heap.size V w6 := hV5.trans (hb6.mono hV5.size)
      first | (go_wp2_with fail) | skip
      refine hK.out _ _ ?_ (fun hNew => ?_)
      focus ((try dsimp only); (refine KS.out _ ?_; repeat' (first | (with_reducible exact Nat.le_refl _) | (with_reducible exact hV6.size) | (with_reducible assumption) | (with_reducible exact Below.refl _ _) | (with_reducible refine Below.drew ?_) | (with_reducible refine Below.alloc ?_ ?_ _) | (refine Below.size (B := V.heap.size) ?_; with_reducible assumption) | (have hsz := Below.size hV5; simp only [World.drew, World.alloc, Array.size_push] at hsz ⊢; omega) | (have hsz := hHeld.1.size; simp only [World.drew, World.alloc, Array.size_push] at hsz ⊢; omega))))
      clear hK K hHeld
      have hHeld := hNew
      clear hNew
      try simp only [Act.put, List.setIfInBounds_toArray, List.set_cons_zero, List.set_cons_succ]
      refine wpAnyH_ready (rs := [5]) (by kernel_rfl) (by simp) ?_
      refine (AllReadyH.cons (o := { dst := some 9, op := Go.Op.buildSlice 124 3 #[(0, Go.Operand.tmp 4), (1, Go.Operand.tmp 5), (2, Go.Operand.tmp 8)], type := 124, pos := "token.go:39", after := #[{ on := 0, ground := Go.Ground.data }, { on := 1, ground := Go.Ground.data }, { on := 4, ground := Go.Ground.data }], guard := none }) rfl (fun K hK => ?_) AllReadyH.nil)
      go_simp
      refine hK.out _ _ ?_ (fun hNew => ?_)
      focus ((try dsimp only); (refine KS.out _ ?_; repeat' (first | (with_reducible exact Nat.le_refl _) | (with_reducible exact hV6.size) | (with_reducible assumption) | (with_reducible exact Below.refl _ _) | (with_reducible refine Below.drew ?_) | (with_reducible refine Below.alloc ?_ ?_ _) | (refine Below.size (B := V.heap.size) ?_; with_reducible assumption) | (have hsz := Below.size hV5; simp only [World.drew, World.alloc, Array.size_push] at hsz ⊢; omega) | (have hsz := hHeld.1.size; simp only [World.drew, World.alloc, Array.size_push] at hsz ⊢; omega))))
      clear hK K hHeld
      have hHeld := hNew
      clear hNew
      try simp only [Act.put, List.setIfInBounds_toArray, List.set_cons_zero, List.set_cons_succ]
      refine wpAnyH_ready (rs := [6]) (by kernel_rfl) (by simp) ?_
      refine (AllReadyH.cons (o := { dst := some 10, op := Go.Op.call { callee := Go.Callee.value (Go.Operand.func 111), args := #[Go.Operand.tmp 9], argTypes := #[124] }, type := 111, pos := "token.go:39", after := #[{ on := 5, ground := Go.Ground.data }, { on := 4, ground := Go.Ground.chain }], guard := none }) rfl (fun K hK => ?_) AllReadyH.nil)
      go_simp
      refine (HU.out _).mono ?_; rintro e w7 ⟨rfl, hb7⟩; have hV7 := hV6.trans (hb7.mono hV6.size); have bz := b0.below hV7 lV; obtain ⟨d0, d1, d2, d3⟩ := bz.cells; obtain ⟨f0, f1, f2, f3⟩ := bz.frees
      first | (go_wp2_with fail) | skip
      refine hK.out _ _ ?_ (fun hNew => ?_)
      focus ((try dsimp only); (refine KS.out _ ?_; repeat' (first | (with_reducible exact Nat.le_refl _) | (with_reducible exact hV6.size) | (with_reducible assumption) | (with_reducible exact Below.refl _ _) | (with_reducible refine Below.drew ?_) | (with_reducible refine Below.alloc ?_ ?_ _) | (refine Below.size (B := V.heap.size) ?_; with_reducible assumption) | (have hsz := Below.size hV5; simp only [World.drew, World.alloc, Array.size_push] at hsz ⊢; omega) | (have hsz := hHeld.1.size; simp only [World.drew, World.alloc, Array.size_push] at hsz ⊢; omega))))
      clear hK K hHeld
      have hHeld := hNew
      clear hNew
      try simp only [Act.put, List.setIfInBounds_toArray, List.set_cons_zero, List.set_cons_succ]
      refine wpAnyH_ready (rs := [7]) (by kernel_rfl) (by simp) ?_
      refine (AllReadyH.cons (o := { dst := none, op := Go.Op.store 111 (Go.Operand.tmp 0) (Go.Operand.tmp 10), type := 0, pos := "token.go:39", after := #[{ on := 6, ground := Go.Ground.data }, { on := 6, ground := Go.Ground.chain }, { on := 0, ground := Go.Ground.phase }, { on := 1, ground := Go.Ground.phase }, { on := 2, ground := Go.Ground.phase }, { on := 3, ground := Go.Ground.phase }, { on := 4, ground := Go.Ground.phase }, { on := 5, ground := Go.Ground.phase }, { on := 6, ground := Go.Ground.phase }], guard := none }) rfl (fun K hK => ?_) AllReadyH.nil)
      go_simp
      refine hK.out _ _ ?_ (fun hNew => ?_)
      focus ((try dsimp only); exact (((((bL.below hV7 lL).other _ hne _).other _ hne _).other _ hne _).other _ hne _).cells4)
      clear hK K hHeld
      have hHeld := hNew
      clear hNew
      try simp only [Act.put, List.setIfInBounds_toArray, List.set_cons_zero, List.set_cons_succ]
      refine wpAnyH_done (by kernel_rfl) ?_ _
      refine NoPanic.normal ?_
      go_wp2_with fail
      exact bodyPost_ret ((bz.store4 a b c d).results rfl _ rfl) rfl ⟨rfl, Blk.below4 a b c d (hB2.trans (hV7.mono hB2.size)) (Nat.le_refl _)⟩
set_option maxRecDepth 100000 in
theorem tokS_has : ∀ n, n < 256 → tokS.has n = tokN n := by decide +kernel
end Go.Proofs.YtbafmiejgpgamaaGreatDoor
