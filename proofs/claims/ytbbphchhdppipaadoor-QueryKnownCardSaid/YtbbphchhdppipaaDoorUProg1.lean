/-
  The program's sets: Stay, the bytes of literals, the bytes of queries; a set that is asked; Escapes, Check and Literal.
-/
import Derived.Test.YtbbphchhdppipaaDoorURef2
import Derived.Test.YtbbphchhdppipaaDoorUAll
import Derived.Test.YtbbphchhdppipaaDoorUDec2
import Derived.Deep.RegionWith
import Derived.Lib.SlBytesConst
namespace Go.Proofs.YtbbphchhdppipaaDoor
open Go.RowKit
attribute [local go_sem] w_0 w_1 w_2 w_3
def stayF (j : Nat) : Nat := ([97, 98, 99, 100, 101, 102, 103, 104, 105, 106, 107, 108, 109, 110, 111, 112, 113, 114, 115, 116, 117, 118, 119, 120, 121, 122, 65, 66, 67, 68, 69, 70, 71, 72, 73, 74, 75, 76, 77, 78, 79, 80, 81, 82, 83, 84, 85, 86, 87, 88, 89, 90, 48, 49, 50, 51, 52, 53, 54, 55, 56, 57, 45, 46, 95, 126, 47, 58, 64, 33, 42, 40, 41, 44, 36] : List Nat).getD j 0
theorem stayF_lt : ∀ j, j < 75 → stayF j < 256 := by decide +kernel
theorem stayF_set : addTo .empty stayF 75 = stayS := by decide +kernel
abbrev stayC : Array Value := #[.int .u8 97, .int .u8 98, .int .u8 99, .int .u8 100, .int .u8 101, .int .u8 102, .int .u8 103, .int .u8 104, .int .u8 105, .int .u8 106, .int .u8 107, .int .u8 108, .int .u8 109, .int .u8 110, .int .u8 111, .int .u8 112, .int .u8 113, .int .u8 114, .int .u8 115, .int .u8 116, .int .u8 117, .int .u8 118, .int .u8 119, .int .u8 120, .int .u8 121, .int .u8 122, .int .u8 65, .int .u8 66, .int .u8 67, .int .u8 68, .int .u8 69, .int .u8 70, .int .u8 71, .int .u8 72, .int .u8 73, .int .u8 74, .int .u8 75, .int .u8 76, .int .u8 77, .int .u8 78, .int .u8 79, .int .u8 80, .int .u8 81, .int .u8 82, .int .u8 83, .int .u8 84, .int .u8 85, .int .u8 86, .int .u8 87, .int .u8 88, .int .u8 89, .int .u8 90, .int .u8 48, .int .u8 49, .int .u8 50, .int .u8 51, .int .u8 52, .int .u8 53, .int .u8 54, .int .u8 55, .int .u8 56, .int .u8 57, .int .u8 45, .int .u8 46, .int .u8 95, .int .u8 126, .int .u8 47, .int .u8 58, .int .u8 64, .int .u8 33, .int .u8 42, .int .u8 40, .int .u8 41, .int .u8 44, .int .u8 36]
theorem lit_cell (L : List Nat) (C : Array Value) (hC : C = (L.map u8C).toArray) (j : Nat) (hj : j < L.length) : C[j]? = some (.int .u8 ((L.getD j 0 : Nat) : Int)) := by
  subst hC
  rw [List.getElem?_toArray, List.getElem?_map, List.getD_eq_getElem?_getD, List.getElem?_eq_getElem hj]
  rfl
theorem stay_cell (j : Nat) (hj : j < 75) : stayC[j]? = some (.int .u8 (stayF j : Int)) := lit_cell _ stayC rfl j hj
theorem stay_of (a b c d : BitVec 64) (h : Hid (stayS = ⟨a, b, c, d⟩)) (W : World) (B : Nat) (fr : Nat × Nat) (hk : W.heap[B]? = some (.cells stayC 5 fr)) :
    Calls Tryd.prog 37 #[.slice (some ⟨B, 0, none⟩) 75 75] W fun e w' => e = .returned (WSet.mk a b c d).v ∧ Below W.heap.size W w' := by
  have hc := of_any B 0 75 75 stayF stayF_lt (by unfold maxLen; omega) W (lt_of_block hk) (fun j hj => by rw [Nat.zero_add, cell_of_row _ _ _ _ _ _ hk]; exact stay_cell j hj)
  rw [stayF_set, h.out] at hc
  exact hc
set_option maxRecDepth 100000 in
set_option maxHeartbeats 4000000 in
theorem stay_any (a b c d : BitVec 64) (HT : Hid (stayS = ⟨a, b, c, d⟩)) (w : World) :
    Calls Tryd.prog 11 #[] w fun e w' => e = .returned (WSet.mk a b c d).v ∧ Below w.heap.size w w' := by
  have HM : Hid (∀ (W : World) (B : Nat) (fr : Nat × Nat), W.heap[B]? = some (.cells stayC 5 fr) → Calls Tryd.prog 37 #[.slice (some ⟨B, 0, none⟩) 75 75] W fun e w' => e = .returned (WSet.mk a b c d).v ∧ Below W.heap.size W w') := Lib.hid fun W B fr hk => stay_of a b c d HT W B fr hk
  clear HT
  go_enter Tryd.func11, Tryd.ntmps11
  go_upto_region 1 with fail
  have b0 := Blk.new0 w
  have hB2 := (Below.refl _ w).alloc (Nat.le_refl _) (.cells #[.int .u64 0, .int .u64 0, .int .u64 0, .int .u64 0] 25)
  obtain ⟨V, hV⟩ : ∃ V, w.alloc (.cells #[.int .u64 0, .int .u64 0, .int .u64 0, .int .u64 0] 25) = V := ⟨_, rfl⟩
  rw [hV] at b0 hB2 ⊢
  clear hV
  have lV := b0.lt
  have kc := fun (w : World) (C : Array Value) (n c : Nat) => Lib.run_convert_bytes_const (P := Tryd.prog) w 53 5 C n c Tryd.underlying53 Tryd.underlying5
  go_wp2_with fail
  refine (HM.out _ _ _ (heap_alloc_new _ _)).mono ?_
  rintro e w7 ⟨rfl, hb7⟩
  have hV7 : Below V.heap.size V w7 := ((Below.refl _ V).alloc (Nat.le_refl _) _).trans (hb7.mono (by simp))
  have bz := b0.below hV7 lV
  obtain ⟨d0, d1, d2, d3⟩ := bz.cells
  obtain ⟨f0, f1, f2, f3⟩ := bz.frees
  go_wp2_with fail
  exact bodyPost_ret ((bz.store4 a b c d).results rfl _ rfl) rfl ⟨rfl, Blk.below4 a b c d (hB2.trans (hV7.mono hB2.size)) (Nat.le_refl _)⟩
def mkF (j : Nat) : Nat := ([38, 61, 43, 59, 37] : List Nat).getD j 0
def mkS : WSet := addTo .empty mkF 5
theorem mkF_lt : ∀ j, j < 5 → mkF j < 256 := by decide
theorem mkS_or : stayS.or mkS = litS := by decide +kernel
theorem mk_cell : ∀ j, j < 5 → (#[.int .u8 38, .int .u8 61, .int .u8 43, .int .u8 59, .int .u8 37] : Array Value)[j]? = some (.int .u8 (mkF j : Int)) := by
  intro j hj
  match j, hj with
  | 0, _ => rfl
  | 1, _ => rfl
  | 2, _ => rfl
  | 3, _ => rfl
  | 4, _ => rfl
theorem mk_of (a b c d : BitVec 64) (h : Hid (mkS = ⟨a, b, c, d⟩)) (W : World) (B : Nat) (fr : Nat × Nat) (hk : W.heap[B]? = some (.cells #[.int .u8 38, .int .u8 61, .int .u8 43, .int .u8 59, .int .u8 37] 5 fr)) :
    Calls Tryd.prog 37 #[.slice (some ⟨B, 0, none⟩) 5 5] W fun e w' => e = .returned (WSet.mk a b c d).v ∧ Below W.heap.size W w' := by
  have hc := of_any B 0 5 5 mkF mkF_lt (by unfold maxLen; omega) W (lt_of_block hk) (fun j hj => by rw [Nat.zero_add, cell_of_row _ _ _ _ _ _ hk]; exact mk_cell j hj)
  have ht : addTo .empty mkF 5 = ⟨a, b, c, d⟩ := h.out
  rw [ht] at hc
  exact hc
set_option maxHeartbeats 1000000 in
theorem setHas_any (a b c d : BitVec 64) (y : Nat) (hy : y < 256) (w : World) :
    Calls Tryd.prog 40 #[.agg #[.int .u64 a.toNat, .int .u64 b.toNat, .int .u64 c.toNat, .int .u64 d.toNat], .int .u8 (y : Int)] w fun e w' => e = .returned (.bool ((WSet.mk a b c d).has y)) ∧ Below w.heap.size w w' := by
  obtain ⟨q, hq⟩ : ∃ q, (WSet.mk a b c d).has y = q := ⟨_, rfl⟩
  have HH : Hid (∀ W, Calls Tryd.prog 62 #[.agg #[.int .u64 a.toNat, .int .u64 b.toNat, .int .u64 c.toNat, .int .u64 d.toNat], .int .u8 (y : Int)] W fun e w' => e = .returned (.bool q) ∧ Below W.heap.size W w') := Lib.hid fun W => by
    have h := has_any a b c d (y : Int) (by omega) (by omega) W
    rw [Int.toNat_natCast, hq] at h
    exact h
  rw [hq]
  clear hq
  have hB : Below w.heap.size w (w.alloc (.cells #[.int .u64 a.toNat, .int .u64 b.toNat, .int .u64 c.toNat, .int .u64 d.toNat] 55)) := (Below.refl _ _).alloc (Nat.le_refl _) _
  go_enter Tryd.func40, Tryd.ntmps40
  go_wp2_with fail
  refine (HH.out _).mono ?_
  rintro e w1 ⟨rfl, hb⟩
  go_wp2_with fail
  go_ret
  exact ⟨rfl, hB.trans (hb.mono hB.size)⟩
set_option maxHeartbeats 4000000 in
theorem escapes_any (l : List UInt8) (hl : l.length < 1000000) (w : World) :
    Calls Tryd.prog 47 #[.string ⟨l.toArray⟩] w fun e w' => (∃ n j : Int, e = .returned (.tuple #[.int .i64 n, .agg #[.int .i64 (if okE l then 0 else 3), .int .i64 j]])) ∧ Below w.heap.size w w' := by
  have hB0 : Below w.heap.size w (w.alloc (.cells #[.int .i64 0, .int .i64 0] 48)) := (Below.refl _ _).alloc (Nat.le_refl _) _
  have r0 := FBlk.new0 w
  have HDEC : Hid (∀ W, Calls Tryd.prog 36 #[.string ⟨l.toArray⟩] W fun e w' => e = .returned (decV (decL l 0)) ∧ Below W.heap.size W w') := Lib.hid fun W => decode_any l hl W
  obtain ⟨b, hb⟩ : ∃ b, okE l = b := ⟨_, rfl⟩
  cases b with
  | false =>
    obtain ⟨i, hi⟩ := dec_no hb 0
    have HD : Hid (decV (decL l 0) = .tuple #[.string ⟨#[]⟩, .agg #[.int .i64 3, .int .i64 (i : Int)]]) := Lib.hid (by rw [hi]; rfl)
    rw [hb]
    clear hb hi
    go_enter Tryd.func47, Tryd.ntmps47
    go_wp2_with fail
    refine (HDEC.out _).mono ?_
    rintro y w1 ⟨rfl, hb⟩
    rw [HD.out]
    have r1 : FBlk w1 w.heap.size 0 0 := (hb.block _ r0.lt).trans r0
    have hB1 := hB0.trans (hb.mono hB0.size)
    have l1 := r1.lt
    obtain ⟨c0, c1, f0, f1⟩ := r1.cells
    clear hb hB0 r0
    go_wp2_with fail
    go_region
    all_goals
      go_wp2_with fail
      exact bodyPost_ret ((((r1.store 3 i).alloc (.cells #[.int .i64 3, .int .i64 (i : Int)] 48)).drew).results rfl _ _ rfl rfl) rfl ⟨⟨_, _, rfl⟩, ((FBlk.belowStore (B := w.heap.size) hB1 (by omega) _ _).alloc (by simp; omega) _).drew⟩
  | true =>
    have hj := dec_ok hb 0
    obtain ⟨T, hT⟩ : ∃ T, unL l = T := ⟨_, rfl⟩
    have HD : Hid (decV (decL l 0) = .tuple #[.string ⟨T.toArray⟩, .agg #[.int .i64 0, .int .i64 0]]) := Lib.hid (by rw [hj, hT]; rfl)
    rw [hb]
    clear hb hj hT
    go_enter Tryd.func47, Tryd.ntmps47
    go_wp2_with fail
    refine (HDEC.out _).mono ?_
    rintro y w1 ⟨rfl, hb⟩
    rw [HD.out]
    have r1 : FBlk w1 w.heap.size 0 0 := (hb.block _ r0.lt).trans r0
    have hB1 := hB0.trans (hb.mono hB0.size)
    have l1 := r1.lt
    obtain ⟨c0, c1, f0, f1⟩ := r1.cells
    clear hb hB0 r0
    go_wp2_with fail
    refine (countByte_any _ _ _).mono ?_
    rintro y w2 ⟨rfl, rfl⟩
    obtain ⟨u, hu⟩ : ∃ u, (Lib.countByte (ByteArray.mk l.toArray).data.toList 37 : Int) = u := ⟨_, rfl⟩
    rw [hu]
    clear hu
    go_wp2_with fail
    exact bodyPost_ret (((r1.store 0 0).alloc (.cells #[.int .i64 0, .int .i64 0] 48)).results rfl _ _ rfl rfl) rfl ⟨⟨_, _, rfl⟩, (FBlk.belowStore (B := w.heap.size) hB1 (by omega) _ _).alloc (by simp; omega) _⟩
end Go.Proofs.YtbbphchhdppipaaDoor
