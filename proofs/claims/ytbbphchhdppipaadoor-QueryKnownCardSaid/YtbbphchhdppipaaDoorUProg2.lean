/-
  The program's inQueries, Check and Literal.
-/
import Derived.Test.YtbbphchhdppipaaDoorUProg1
namespace Go.Proofs.YtbbphchhdppipaaDoor
open Go.RowKit
attribute [local go_sem] w_0 w_1 w_2 w_3
def visS : WSet := rangesTo (fun _ => 33) (fun _ => 126) 1
theorem of35 (W : World) : Calls Tryd.prog 37 #[.slice (some ⟨W.heap.size, 0, none⟩) 1 1] (W.alloc (.cells #[.int .u8 35] 5)).drew fun e w' => e = .returned (WSet.mk 34359738368#64 0#64 0#64 0#64).v ∧ Below W.heap.size W w' := by
  refine (of_any W.heap.size 0 1 1 (fun _ => 35) (fun _ _ => by omega) (by unfold maxLen; omega) _ (by simp) ?_).mono ?_
  · intro j hj
    have hk : (W.alloc (.cells #[.int .u8 35] 5)).drew.heap[W.heap.size]? = _ := heap_alloc_new W _
    rw [cell_of_row _ _ _ _ _ _ hk]
    match j, hj with
    | 0, _ => rfl
  · rintro e w' ⟨rfl, hb⟩
    have e0 : addTo .empty (fun _ => 35) 1 = ⟨34359738368#64, 0#64, 0#64, 0#64⟩ := by decide +kernel
    exact ⟨by rw [e0], (((Below.refl _ W).alloc (Nat.le_refl _) _).drew).trans (hb.mono (by simp))⟩
theorem qry_words : andTo WSet.empty.not (pairF visS (WSet.mk 34359738368#64 0#64 0#64 0#64).not) 2 = qryS := by decide +kernel
theorem vis_any (W : World) (B : Nat) (hk : W.heap[B]? = some (.cells #[.int .u8 33, .int .u8 126] 95 (0, 0))) :
    Calls Tryd.prog 65 #[.slice (some ⟨B, 0, none⟩) 1 1] W fun e w' => e = .returned (.tuple #[visS.v, .int .i64 0]) ∧ Below W.heap.size W w' :=
  ranges_ok B 0 1 1 (fun _ => 33) (fun _ => 126) (fun _ _ => ⟨by omega, by omega⟩) (fun _ _ => by omega) (by unfold maxLen; omega) W (lt_of_block hk) (fun j hj => by
    obtain rfl : j = 0 := by omega
    exact ⟨cell_of_row W _ _ _ _ _ hk, cell_of_row W _ _ _ _ _ hk⟩)
set_option maxRecDepth 100000 in
set_option maxHeartbeats 4000000 in
theorem inq_any (a b c d : BitVec 64) (HT : Hid (qryS = ⟨a, b, c, d⟩)) (w : World) :
    Calls Tryd.prog 45 #[] w fun e w' => e = .returned (WSet.mk a b c d).v ∧ Below w.heap.size w w' := by
  obtain ⟨v0, v1, v2, v3, hv⟩ : ∃ a0 a1 a2 a3, Hid (visS = ⟨a0, a1, a2, a3⟩) := ⟨_, _, _, _, Lib.hid rfl⟩
  obtain ⟨n0, n1, n2, n3, hn⟩ : ∃ a0 a1 a2 a3, Hid ((WSet.mk 34359738368#64 0#64 0#64 0#64).not = ⟨a0, a1, a2, a3⟩) := ⟨_, _, _, _, Lib.hid rfl⟩
  obtain ⟨m0, m1, m2, m3, hm⟩ : ∃ a0 a1 a2 a3, Hid ((WSet.mk 34359738368#64 0#64 0#64 0#64) = ⟨a0, a1, a2, a3⟩) := ⟨_, _, _, _, Lib.hid rfl⟩
  have HV : Hid (∀ (W : World) (B : Nat), W.heap[B]? = some (.cells #[.int .u8 33, .int .u8 126] 95 (0, 0)) → Calls Tryd.prog 65 #[.slice (some ⟨B, 0, none⟩) 1 1] W fun e w' => e = .returned (.tuple #[(WSet.mk v0 v1 v2 v3).v, .int .i64 0]) ∧ Below W.heap.size W w') := Lib.hid fun W B hk => by
    have h := vis_any W B hk
    rw [hv.out] at h
    exact h
  have HO : Hid (∀ W : World, Calls Tryd.prog 37 #[.slice (some ⟨W.heap.size, 0, none⟩) 1 1] (W.alloc (.cells #[.int .u8 35] 5)).drew fun e w' => e = .returned (WSet.mk m0 m1 m2 m3).v ∧ Below W.heap.size W w') := Lib.hid fun W => by
    have h := of35 W
    rw [hm.out] at h
    exact h
  have HN : Hid (∀ W : World, Calls Tryd.prog 67 #[.agg #[.int .u64 m0.toNat, .int .u64 m1.toNat, .int .u64 m2.toNat, .int .u64 m3.toNat]] W fun e w' => e = .returned (WSet.mk n0 n1 n2 n3).v ∧ Below W.heap.size W w') := Lib.hid fun W => by
    have h := not_any m0 m1 m2 m3 W
    rw [← hm.out, hn.out] at h
    exact h
  have HC : Hid (∀ W : World, Calls Tryd.prog 66 #[.slice (some ⟨W.heap.size, 0, none⟩) 2 2] (W.alloc (.cells #[.int .u64 v0.toNat, .int .u64 v1.toNat, .int .u64 v2.toNat, .int .u64 v3.toNat, .int .u64 n0.toNat, .int .u64 n1.toNat, .int .u64 n2.toNat, .int .u64 n3.toNat] 25)) fun e w' => e = .returned (WSet.mk a b c d).v ∧ Below W.heap.size W w') := Lib.hid fun W => by
    have h := common2 v0 v1 v2 v3 n0 n1 n2 n3 W
    rw [← hv.out, ← hn.out, qry_words, HT.out] at h
    exact h
  clear hv hn hm HT
  go_enter Tryd.func45, Tryd.ntmps45
  go_upto_region 1 with fail
  have b0 := Blk.new0 w
  have hB2 := (Below.refl _ w).alloc (Nat.le_refl _) (.cells #[.int .u64 0, .int .u64 0, .int .u64 0, .int .u64 0] 25)
  obtain ⟨V, hV⟩ : ∃ V, w.alloc (.cells #[.int .u64 0, .int .u64 0, .int .u64 0, .int .u64 0] 25) = V := ⟨_, rfl⟩
  rw [hV] at b0 hB2 ⊢
  clear hV
  have lV := b0.lt
  go_wp2_with fail
  refine (HV.out _ _ (heap_alloc_new _ _)).mono ?_
  rintro e w1 ⟨rfl, hb1⟩
  have hV1 : Below V.heap.size V w1 := ((Below.refl _ V).alloc (Nat.le_refl _) _).trans (hb1.mono (by simp))
  clear hb1
  go_upto_region 2 with fail
  have bz := (b0.below hV1 lV).alloc (.cells #[.int .u64 v0.toNat, .int .u64 v1.toNat, .int .u64 v2.toNat, .int .u64 v3.toNat] 25)
  have bv := Blk.new w1 ⟨v0, v1, v2, v3⟩
  have hX := (hB2.trans (hV1.mono hB2.size)).alloc (by have := hB2.size; have := hV1.size; omega) (.cells #[.int .u64 v0.toNat, .int .u64 v1.toNat, .int .u64 v2.toNat, .int .u64 v3.toNat] 25)
  have lX : w.heap.size < w1.heap.size := Nat.lt_of_lt_of_le lV hV1.size
  obtain ⟨B, hBe⟩ : ∃ B, w1.heap.size = B := ⟨_, rfl⟩
  obtain ⟨X, hXe⟩ : ∃ X, w1.alloc (.cells #[.int .u64 v0.toNat, .int .u64 v1.toNat, .int .u64 v2.toNat, .int .u64 v3.toNat] 25) = X := ⟨_, rfl⟩
  have hX2 : Hid (w1.alloc (.cells #[.int .u64 v0.toNat, .int .u64 v1.toNat, .int .u64 v2.toNat, .int .u64 v3.toNat] 25) = X) := Lib.hid hXe
  rw [hXe] at bz bv hX
  try rw [hXe]
  rw [hBe] at bv lX
  try rw [hBe]
  clear hXe hBe hV1 b0 hB2
  obtain ⟨c0, c1, c2, c3⟩ := bv.cells4
  have lB := bv.lt
  have lz := bz.lt
  go_region_with (first
    | (go_at_call 37; refine (HO.out X).mono ?_; rintro e w5 ⟨rfl, hb5⟩; have b5 := bv.below hb5 lB; have z5 := bz.below hb5 lz; obtain ⟨c50, c51, c52, c53⟩ := b5.cells4; have l5 := hb5.size)
    | (go_at_call 67; refine (HN.out _).mono ?_; rintro e w6 ⟨rfl, hb6⟩; have b6 := b5.below hb6 b5.lt; have z6 := z5.below hb6 z5.lt; obtain ⟨c60, c61, c62, c63⟩ := b6.cells4; have l6 := hb6.size)
    | (go_at_call 66; refine (HC.out w6).mono ?_; rintro e w7 ⟨rfl, hb7⟩; have z7 := z6.below hb7 z6.lt; have l7 := hb7.size; obtain ⟨d0, d1, d2, d3⟩ := z7.cells; obtain ⟨f0, f1, f2, f3⟩ := z7.frees))
  all_goals
    go_wp2_with fail
    have hZ : Below w.heap.size w w7 := ((hX.trans (hb5.mono hX.size)).trans (hb6.mono (by have := hX.size; omega))).trans (hb7.mono (by have := hX.size; omega))
    exact bodyPost_ret ((z7.store4 a b c d).results rfl _ rfl) rfl ⟨rfl, Blk.below4 a b c d hZ (Nat.le_refl _)⟩
end Go.Proofs.YtbbphchhdppipaaDoor
