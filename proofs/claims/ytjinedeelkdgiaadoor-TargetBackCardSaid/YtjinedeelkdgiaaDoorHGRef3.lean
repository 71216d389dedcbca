/-
  The reference's set Chars of layer 18. No condition.
-/
import Derived.Test.YtjinedeelkdgiaaDoorHGRef1
import Derived.Deep.RegionWith
namespace Go.Proofs.YtjinedeelkdgiaaDoor
open Go.RowKit
attribute [local go_sem] w_0 w_1 w_2 w_3
/-- A set with one byte. -/
def oneS (n : Nat) : WSet := addTo .empty (fun _ => n) 1
theorem refOne_at (n : Nat) (hn : n < 256) (a b c d : BitVec 64) (h : Hid (oneS n = ⟨a, b, c, d⟩)) (W : World) (B : Nat) (fr : Nat × Nat) (hk : W.heap[B]? = some (.cells #[.int .u8 (n : Int)] 5 fr)) :
    Calls Tryd.prog 46 #[.slice (some ⟨B, 0, none⟩) 1 1] W fun e w' => e = .returned (WSet.mk a b c d).v ∧ Below W.heap.size W w' := by
  have hc := refOf_any (some ⟨B, 0, none⟩) 1 1 (fun _ => n) (by unfold maxLen; omega) W (fun j hj => by
    obtain rfl : j = 0 := by omega
    exact ⟨hn, B, 0, rfl, lt_of_block hk, by rw [cell_of_row _ _ _ _ _ _ hk]; rfl⟩)
  have e : addTo .empty (fun _ => n) 1 = ⟨a, b, c, d⟩ := h.out
  rw [e] at hc
  exact hc
theorem refUnion2_h (x0 x1 x2 x3 y0 y1 y2 y3 a b c d : BitVec 64) (h : Hid ((WSet.mk x0 x1 x2 x3).or (WSet.mk y0 y1 y2 y3) = ⟨a, b, c, d⟩)) (W : World) (B : Nat) (fr : Nat × Nat) (hk : W.heap[B]? = some (.cells #[.int .u64 x0.toNat, .int .u64 x1.toNat, .int .u64 x2.toNat, .int .u64 x3.toNat, .int .u64 y0.toNat, .int .u64 y1.toNat, .int .u64 y2.toNat, .int .u64 y3.toNat] 38 fr)) :
    Calls Tryd.prog 45 #[.slice (some ⟨B, 0, none⟩) 2 2] W fun e w' => e = .returned (WSet.mk a b c d).v ∧ Below W.heap.size W w' := by
  have hc := refUnion2_at x0 x1 x2 x3 y0 y1 y2 y3 W B fr hk
  rw [h.out] at hc
  exact hc
/-- The bytes of a target among the first ones from 33 on. -/
def chTo : Nat → WSet
  | 0 => .empty
  | k + 1 => if 33 + k = 35 then chTo k else (chTo k).or (oneS (33 + k))
def charS : WSet := ⟨18446744030759878656#64, 9223372036854775807#64, 0#64, 0#64⟩
theorem chTo_all : chTo 94 = charS := by decide +kernel
set_option maxRecDepth 100000 in
set_option maxHeartbeats 4000000 in
theorem refChars_any (w : World) :
    Calls Tryd.prog 22 #[] w fun e w' => e = .returned charS.v ∧ Below w.heap.size w w' := by
  go_enter Tryd.func22, Tryd.ntmps22
  go_wp2_with fail
  obtain ⟨O, hO⟩ : ∃ O, w.heap.size + 1 = O := ⟨_, rfl⟩
  have hO' := Lib.hid hO
  rw [hO]
  go_loopw [2] (fun i wr => ∃ k : Nat, k ≤ 94 ∧ i = .int .i64 ((33 + k : Nat) : Int) ∧ Blk wr w.heap.size .empty ∧ Blk wr O (chTo k) ∧ Below w.heap.size w wr)
    (fun i _ => 127 - (intOf i).toNat)
  case atStart =>
    refine ⟨0, Nat.zero_le _, rfl, (Blk.new0 w).alloc _, ?_, ?_⟩
    · have := Blk.new0 (w.alloc (.cells #[.int .u64 0, .int .u64 0, .int .u64 0, .int .u64 0] 38))
      rw [World.size_alloc, hO] at this
      exact this
    · go_grown
  case round =>
    obtain ⟨k, hk, rfl, h1, h2, hB⟩ := hrel
    clear hO
    by_cases hlt : k < 94
    · obtain ⟨n, hn⟩ : ∃ n, 33 + k = n := ⟨_, rfl⟩
      have hn' := Lib.hid hn
      rw [hn]
      have g1 : decide ((n : Int) ≤ 126) = true := decide_eq_true (by omega)
      have g2 : IntKind.u8.wrap (n : Int) = (n : Int) := by rw [IntKind.wrap_u8']; omega
      have g3 : IntKind.i64.wrap ((n : Int) + 1) = ((n + 1 : Nat) : Int) := (IntWalk.i64_in _ (by omega)).trans (by omega)
      have gn : n < 256 := by omega
      by_cases h35 : n = 35
      · have g4 : ((n : Int) != 35) = false := by rw [bne_eq_false_iff_eq]; omega
        have HS : Hid (chTo (k + 1) = chTo k) := Lib.hid (by rw [chTo, if_pos (hn.trans h35)])
        clear hn h35
        go_wp2_with fail
        go_roundw
        case rel => exact ⟨k + 1, by omega, by have := hn'.out; congr 1; omega, h1, by rw [HS.out]; exact h2, hB⟩
        case measure => have := hn'.out; simp [intOf]; omega
      · have g4 : ((n : Int) != 35) = true := by rw [bne_iff_ne]; omega
        obtain ⟨t0, t1, t2, t3, ht⟩ : ∃ t0 t1 t2 t3, Hid (chTo k = ⟨t0, t1, t2, t3⟩) := ⟨_, _, _, _, Lib.hid rfl⟩
        obtain ⟨o0, o1, o2, o3, ho⟩ : ∃ t0 t1 t2 t3, Hid (oneS n = ⟨t0, t1, t2, t3⟩) := ⟨_, _, _, _, Lib.hid rfl⟩
        obtain ⟨v0, v1, v2, v3, hu⟩ : ∃ y0 y1 y2 y3, Hid ((WSet.mk t0 t1 t2 t3).or (WSet.mk o0 o1 o2 o3) = ⟨y0, y1, y2, y3⟩) := ⟨_, _, _, _, Lib.hid rfl⟩
        have HS : Hid (chTo (k + 1) = ⟨v0, v1, v2, v3⟩) := Lib.hid (by rw [chTo, if_neg (by omega), hn, ht.out, ho.out, hu.out])
        rw [ht.out] at h2
        have HO := Lib.hid (refOne_at n gn o0 o1 o2 o3 ho)
        have HU := Lib.hid (refUnion2_h t0 t1 t2 t3 o0 o1 o2 o3 v0 v1 v2 v3 hu)
        obtain ⟨c0, c1, c2, c3⟩ := h2.cells4
        have l2 := h2.lt
        have l1 := h1.lt
        clear hn h35 ht ho hu
        go_wp2_with fail
        go_region_with (first
          | (go_at_call 46; refine (HO.out (wr.alloc _).drew _ _ (heap_alloc_new wr _)).mono ?_; rintro e w5 ⟨rfl, hb5⟩; have z5 := (h1.alloc _).drew.below hb5 (h1.alloc _).lt; have b5 := (h2.alloc _).drew.below hb5 (h2.alloc _).lt; have hB5 := (hB.alloc hB.size _).drew.trans (hb5.mono (by have := hB.size; simp; omega)); clear hb5; obtain ⟨c50, c51, c52, c53⟩ := b5.cells4; obtain ⟨f50, f51, f52, f53⟩ := b5.frees; have l5 := b5.lt)
          | (go_at_call 45; refine (HU.out _ _ _ (heap_alloc_new w5 _)).mono ?_; rintro e w6 ⟨rfl, hb6⟩; have z6 := (z5.alloc _).below hb6 (z5.alloc _).lt; have b6 := (b5.alloc _).below hb6 (b5.alloc _).lt; have hB6 := (hB5.alloc hB5.size _).trans (hb6.mono (by have := hB5.size; simp; omega)); clear hb6; obtain ⟨c60, c61, c62, c63⟩ := b6.cells4; obtain ⟨f60, f61, f62, f63⟩ := b6.frees; have l6 := b6.lt))
        all_goals
          go_wp2_with fail
          go_roundw
          case rel => exact ⟨k + 1, by omega, by have := hn'.out; congr 1; omega, (((z6.other _ (by have := hO'.out; (try dsimp only); omega) _).other _ (by have := hO'.out; (try dsimp only); omega) _).other _ (by have := hO'.out; (try dsimp only); omega) _).other _ (by have := hO'.out; (try dsimp only); omega) _, by rw [HS.out]; exact b6.store4 v0 v1 v2 v3, Blk.below4 v0 v1 v2 v3 hB6 (by have := hO'.out; omega)⟩
          case measure => have := hn'.out; simp [intOf]; omega
    · obtain rfl : k = 94 := by omega
      rw [chTo_all] at h2
      obtain ⟨c0, c1, c2, c3⟩ := h2.cells
      obtain ⟨d0, d1, d2, d3⟩ := h1.cells
      obtain ⟨f0, f1, f2, f3⟩ := h1.frees
      go_wp2_with fail
      exact bodyPost_ret ((h1.store charS).results rfl _ rfl) rfl ⟨rfl, Blk.belowStore _ hB (Nat.le_refl _)⟩
end Go.Proofs.YtjinedeelkdgiaaDoor
