/-
  The reference's set Stay of layer 17. No condition.
-/
import Derived.Test.YtjinedeelkdgiaaDoorHGRef3
namespace Go.Proofs.YtjinedeelkdgiaaDoor
open Go.RowKit
attribute [local go_sem] w_0 w_1 w_2 w_3
/-- The marks that stay in a path. -/
def mk17F (j : Nat) : Nat := ([45, 46, 95, 126, 33, 36, 38, 39, 40, 41, 42, 43, 44, 59, 61, 58, 64, 47] : List Nat).getD j 0
def mk17S : WSet := addTo .empty mk17F 18
theorem mk17F_lt : ∀ j, j < 18 → mk17F j < 256 := by decide +kernel
abbrev mk17C : Array Value := #[.int .u8 45, .int .u8 46, .int .u8 95, .int .u8 126, .int .u8 33, .int .u8 36, .int .u8 38, .int .u8 39, .int .u8 40, .int .u8 41, .int .u8 42, .int .u8 43, .int .u8 44, .int .u8 59, .int .u8 61, .int .u8 58, .int .u8 64, .int .u8 47]
theorem lit_u8 (L : List Nat) (C : Array Value) (hC : C = (L.map fun x : Nat => Value.int .u8 (x : Int)).toArray) (j : Nat) (hj : j < L.length) : C[j]? = some (.int .u8 ((L.getD j 0 : Nat) : Int)) := by
  subst hC
  rw [List.getElem?_toArray, List.getElem?_map, List.getD_eq_getElem?_getD, List.getElem?_eq_getElem hj]
  rfl
theorem mk17_cell (j : Nat) (hj : j < 18) : mk17C[j]? = some (.int .u8 (mk17F j : Int)) := lit_u8 [45, 46, 95, 126, 33, 36, 38, 39, 40, 41, 42, 43, 44, 59, 61, 58, 64, 47] mk17C rfl j hj
theorem refMk17_at (a b c d : BitVec 64) (h : Hid (mk17S = ⟨a, b, c, d⟩)) (W : World) (B : Nat) (fr : Nat × Nat) (hk : W.heap[B]? = some (.cells mk17C 5 fr)) :
    Calls Tryd.prog 46 #[.slice (some ⟨B, 0, none⟩) 18 18] W fun e w' => e = .returned (WSet.mk a b c d).v ∧ Below W.heap.size W w' := by
  have hc := refOf_any (some ⟨B, 0, none⟩) 18 18 mk17F (by unfold maxLen; omega) W (fun j hj =>
    ⟨mk17F_lt j hj, B, 0, rfl, lt_of_block hk, by rw [Nat.zero_add, cell_of_row _ _ _ _ _ _ hk]; exact mk17_cell j hj⟩)
  have e : addTo .empty mk17F 18 = ⟨a, b, c, d⟩ := h.out
  rw [e] at hc
  exact hc
def alnB (n : Nat) : Bool := (decide (97 ≤ n) && decide (n ≤ 122)) || (decide (65 ≤ n) && decide (n ≤ 90)) || (decide (48 ≤ n) && decide (n ≤ 57))
/-- The marks and the letters and digits below k. -/
def stTo : Nat → WSet
  | 0 => mk17S
  | k + 1 => if alnB k then (stTo k).or (oneS k) else stTo k
def stay17 : WSet := ⟨3458764316252045312#64, 5188146764422578175#64, 0#64, 0#64⟩
theorem stTo_all : stTo 256 = stay17 := by decide +kernel
set_option maxRecDepth 100000 in
set_option maxHeartbeats 4000000 in
theorem refStay_any (w : World) :
    Calls Tryd.prog 42 #[] w fun e w' => e = .returned stay17.v ∧ Below w.heap.size w w' := by
  obtain ⟨m0, m1, m2, m3, hm⟩ : ∃ y0 y1 y2 y3, Hid (mk17S = ⟨y0, y1, y2, y3⟩) := ⟨_, _, _, _, Lib.hid rfl⟩
  have HM := Lib.hid (refMk17_at m0 m1 m2 m3 hm)
  go_enter Tryd.func42, Tryd.ntmps42
  go_upto_region 1 with fail
  have b0 := Blk.new0 w
  have hB0 := (Below.refl _ w).alloc (Nat.le_refl _) (.cells #[.int .u64 0, .int .u64 0, .int .u64 0, .int .u64 0] 38)
  obtain ⟨V, hV⟩ : ∃ V, w.alloc (.cells #[.int .u64 0, .int .u64 0, .int .u64 0, .int .u64 0] 38) = V := ⟨_, rfl⟩
  rw [hV] at b0 hB0 ⊢
  clear hV
  have lV := b0.lt
  go_wp2_with fail
  refine (HM.out _ _ _ (heap_alloc_new V _)).mono ?_
  rintro e w7 ⟨rfl, hb7⟩
  have hV7 : Below V.heap.size V w7 := ((Below.refl _ V).alloc (Nat.le_refl _) _).trans (hb7.mono (by simp))
  have b7 := b0.below hV7 lV
  have hB7 := hB0.trans (hV7.mono hB0.size)
  clear b0 hB0 hb7 hV7
  go_wp2_with fail
  have bO := Blk.new w7 ⟨m0, m1, m2, m3⟩
  have bz := b7.alloc (.cells #[.int .u64 m0.toNat, .int .u64 m1.toNat, .int .u64 m2.toNat, .int .u64 m3.toNat] 38)
  have hBO := hB7.alloc hB7.size (.cells #[.int .u64 m0.toNat, .int .u64 m1.toNat, .int .u64 m2.toNat, .int .u64 m3.toNat] 38)
  have lO : w.heap.size < w7.heap.size := b7.lt
  obtain ⟨O, hO⟩ : ∃ O, w7.heap.size = O := ⟨_, rfl⟩
  rw [hO] at bO lO ⊢
  clear hO b7 hB7 lV HM
  go_loopw [2, 3] (fun i _ wr => ∃ k : Nat, k ≤ 256 ∧ i = .int .i64 (k : Int) ∧ Blk wr w.heap.size .empty ∧ Blk wr O (stTo k) ∧ Below w.heap.size w wr)
    (fun i _ _ => 256 - (intOf i).toNat)
  case atStart => exact ⟨0, Nat.zero_le _, rfl, bz, by show Blk _ O mk17S; rw [hm.out]; exact bO, hBO⟩
  case round =>
    clear bz bO hBO
    obtain ⟨k, hk, rfl, h1, h2, hB⟩ := hrel
    by_cases hlt : k < 256
    · have g1 : decide ((k : Int) < 256) = true := decide_eq_true (by omega)
      have g2 : IntKind.u8.wrap (k : Int) = (k : Int) := by rw [IntKind.wrap_u8']; omega
      have g3 : IntKind.i64.wrap ((k : Int) + 1) = ((k + 1 : Nat) : Int) := (IntWalk.i64_in _ (by omega)).trans (by omega)
      have h : (97 ≤ k ∧ k ≤ 122) ∨ (65 ≤ k ∧ k ≤ 90) ∨ (48 ≤ k ∧ k ≤ 57) ∨ k < 48 ∨ (57 < k ∧ k < 65) ∨ (90 < k ∧ k < 97) ∨ 122 < k := by omega
      have hno : alnB k = false → Hid (stTo (k + 1) = stTo k) := fun e => Lib.hid (by rw [stTo, e]; rfl)
      have hyes : alnB k = true → Hid (stTo (k + 1) = (stTo k).or (oneS k)) := fun e => Lib.hid (by rw [stTo, e]; rfl)
      obtain ⟨t0, t1, t2, t3, ht⟩ : ∃ t0 t1 t2 t3, Hid (stTo k = ⟨t0, t1, t2, t3⟩) := ⟨_, _, _, _, Lib.hid rfl⟩
      obtain ⟨o0, o1, o2, o3, ho⟩ : ∃ t0 t1 t2 t3, Hid (oneS k = ⟨t0, t1, t2, t3⟩) := ⟨_, _, _, _, Lib.hid rfl⟩
      obtain ⟨v0, v1, v2, v3, hu⟩ : ∃ y0 y1 y2 y3, Hid ((WSet.mk t0 t1 t2 t3).or (WSet.mk o0 o1 o2 o3) = ⟨y0, y1, y2, y3⟩) := ⟨_, _, _, _, Lib.hid rfl⟩
      have HO := Lib.hid (refOne_at k hlt o0 o1 o2 o3 ho)
      have HU := Lib.hid (refUnion2_h t0 t1 t2 t3 o0 o1 o2 o3 v0 v1 v2 v3 hu)
      rw [ht.out] at h2 hno hyes
      rw [ho.out, hu.out] at hyes
      obtain ⟨c0, c1, c2, c3⟩ := h2.cells4
      have l2 := h2.lt
      have l1 := h1.lt
      clear ho hu
      rcases h with h | h | h | h | h | h | h
      all_goals
        first | have a1 : decide ((97 : Int) ≤ (k : Int)) = true := decide_eq_true (by omega) | have a1 : decide ((97 : Int) ≤ (k : Int)) = false := decide_eq_false (by omega)
        first | have a2 : decide ((k : Int) ≤ 122) = true := decide_eq_true (by omega) | have a2 : decide ((k : Int) ≤ 122) = false := decide_eq_false (by omega)
        first | have a3 : decide ((65 : Int) ≤ (k : Int)) = true := decide_eq_true (by omega) | have a3 : decide ((65 : Int) ≤ (k : Int)) = false := decide_eq_false (by omega)
        first | have a4 : decide ((k : Int) ≤ 90) = true := decide_eq_true (by omega) | have a4 : decide ((k : Int) ≤ 90) = false := decide_eq_false (by omega)
        first | have a5 : decide ((48 : Int) ≤ (k : Int)) = true := decide_eq_true (by omega) | have a5 : decide ((48 : Int) ≤ (k : Int)) = false := decide_eq_false (by omega)
        first | have a6 : decide ((k : Int) ≤ 57) = true := decide_eq_true (by omega) | have a6 : decide ((k : Int) ≤ 57) = false := decide_eq_false (by omega)
      rotate_left 3
      all_goals first | have HS := hno (by unfold alnB; simp; omega) | have HS := hyes (by unfold alnB; simp; omega)
      all_goals
        clear h hno hyes ht
        go_wp2_with fail
      · go_roundw
        case rel => exact ⟨k + 1, by omega, by go_num, h1, by rw [HS.out]; exact h2, hB⟩
        case measure => simp [intOf]; omega
      · go_roundw
        case rel => exact ⟨k + 1, by omega, by go_num, h1, by rw [HS.out]; exact h2, hB⟩
        case measure => simp [intOf]; omega
      · go_roundw
        case rel => exact ⟨k + 1, by omega, by go_num, h1, by rw [HS.out]; exact h2, hB⟩
        case measure => simp [intOf]; omega
      · go_roundw
        case rel => exact ⟨k + 1, by omega, by go_num, h1, by rw [HS.out]; exact h2, hB⟩
        case measure => simp [intOf]; omega
      all_goals
        go_region_with (first
          | (go_at_call 46; refine (HO.out (wr.alloc _).drew _ _ (heap_alloc_new wr _)).mono ?_; rintro e w5 ⟨rfl, hb5⟩; have z5 := (h1.alloc _).drew.below hb5 (h1.alloc _).lt; have b5 := (h2.alloc _).drew.below hb5 (h2.alloc _).lt; have hB5 := (hB.alloc hB.size _).drew.trans (hb5.mono (by have := hB.size; simp; omega)); clear hb5; obtain ⟨c50, c51, c52, c53⟩ := b5.cells4; obtain ⟨f50, f51, f52, f53⟩ := b5.frees; have l5 := b5.lt)
          | (go_at_call 45; refine (HU.out _ _ _ (heap_alloc_new w5 _)).mono ?_; rintro e w6 ⟨rfl, hb6⟩; have z6 := (z5.alloc _).below hb6 (z5.alloc _).lt; have b6 := (b5.alloc _).below hb6 (b5.alloc _).lt; have hB6 := (hB5.alloc hB5.size _).trans (hb6.mono (by have := hB5.size; simp; omega)); clear hb6; obtain ⟨c60, c61, c62, c63⟩ := b6.cells4; obtain ⟨f60, f61, f62, f63⟩ := b6.frees; have l6 := b6.lt))
        all_goals
          go_wp2_with fail
          go_roundw
          case rel => exact ⟨k + 1, by omega, by go_num, (((z6.other _ (by (try dsimp only); omega) _).other _ (by (try dsimp only); omega) _).other _ (by (try dsimp only); omega) _).other _ (by (try dsimp only); omega) _, by rw [HS.out]; exact b6.store4 v0 v1 v2 v3, Blk.below4 v0 v1 v2 v3 hB6 (by omega)⟩
          case measure => simp [intOf]; omega
    · obtain rfl : k = 256 := by omega
      rw [stTo_all] at h2
      obtain ⟨c0, c1, c2, c3⟩ := h2.cells
      obtain ⟨d0, d1, d2, d3⟩ := h1.cells
      obtain ⟨f0, f1, f2, f3⟩ := h1.frees
      go_wp2_with fail
      exact bodyPost_ret ((h1.store stay17).results rfl _ rfl) rfl ⟨rfl, Blk.belowStore _ hB (Nat.le_refl _)⟩
end Go.Proofs.YtjinedeelkdgiaaDoor
