/-
  The law PercentWrites returns true for every text and set.
-/
import Derived.Test.YtheajdgdllobbaaPLaws1
namespace Go.Proofs.Ytheajdgdllobbaa
open Go.RowKit
attribute [local go_sem] w_0 w_1 w_2 w_3
set_option maxRecDepth 100000 in
set_option maxHeartbeats 8000000 in
theorem writes_law (l : List UInt8) (a b c d : BitVec 64) (w : World) :
    Calls Try.prog 4 #[.string ⟨l.toArray⟩, .agg #[.int .u64 a.toNat, .int .u64 b.toNat, .int .u64 c.toNat, .int .u64 d.toNat]] w fun e w' => e = .returned (.bool true) ∧ Below w.heap.size w w' := by
  have hB : Below w.heap.size w (w.alloc (.cells #[.int .u64 a.toNat, .int .u64 b.toNat, .int .u64 c.toNat, .int .u64 d.toNat] 24)) := by go_grown
  by_cases hl : 500 < l.length
  · have h1 : decide ((500 : Int) < (l.length : Int)) = true := decide_eq_true (by omega)
    go_enter Try.func4, Try.ntmps4
    go_wp2_with fail
    refine (awake_any _).mono ?_
    rintro y w1 ⟨rfl, hb⟩
    go_wp2_with fail
    go_ret
    exact ⟨rfl, hB.trans (hb.mono hB.size)⟩
  · have h1 : decide ((500 : Int) < (l.length : Int)) = false := decide_eq_false (by omega)
    have hl2 : l.length < 1000000 := by omega
    obtain ⟨T, HE⟩ : ∃ T, Hid ((encL ⟨a, b, c, d⟩ l).toArray = T) := ⟨_, Lib.hid rfl⟩
    obtain ⟨m, HL⟩ : ∃ m, Hid ((encL ⟨a, b, c, d⟩ l).length = m) := ⟨_, Lib.hid rfl⟩
    obtain ⟨q, HI⟩ : ∃ q, Hid (isB ⟨a, b, c, d⟩ l = q) := ⟨_, Lib.hid rfl⟩
    have a0 := Blk.new w ⟨a, b, c, d⟩
    go_enter Try.func4, Try.ntmps4
    go_upto_region 3 with fail
    obtain ⟨w1, hw1⟩ : ∃ W, w.alloc (.cells #[.int .u64 a.toNat, .int .u64 b.toNat, .int .u64 c.toNat, .int .u64 d.toNat] 24) = W := ⟨_, rfl⟩
    rw [hw1] at a0 hB ⊢
    clear hw1
    have l1 := a0.lt
    obtain ⟨N, hN⟩ : ∃ N, Hid (w1.heap.size = N) := ⟨_, Lib.hid rfl⟩
    go_cut [4] (fun p wx => p = .bool true ∧ Below w1.heap.size w1 wx)
    case first =>
      go_region_held3 (fun wx => Below N w1 wx ∧ wx.cell? ⟨w.heap.size, 0, none⟩ = some (.int .u64 (a.toNat : Int)) ∧ wx.cell? ⟨w.heap.size, 1, none⟩ = some (.int .u64 (b.toNat : Int)) ∧ wx.cell? ⟨w.heap.size, 2, none⟩ = some (.int .u64 (c.toNat : Int)) ∧ wx.cell? ⟨w.heap.size, 3, none⟩ = some (.int .u64 (d.toNat : Int)))
        ((go_split_ands; refine held1 hN.out a0 l1 ?_; have hN := hN.out; repeat' (first | (with_reducible assumption) | (with_reducible exact Below.refl _ _) | (with_reducible refine Below.drew ?_) | (refine Below.transS (wx := ?_) hN ?_ ?_; rotate_left 2; assumption))))
        (first
        | (go_at_call 17; refine (encode_any l hl2 a b c d _).mono ?_; rintro e w' ⟨rfl, hb⟩; rw [HE.out])
        | (go_at_call 18; refine (refEncode_any l hl2 a b c d _).mono ?_; rintro e w' ⟨rfl, hb⟩; rw [HE.out])
        | (go_at_call 19; refine (length_any l hl2 a b c d _).mono ?_; rintro e w' ⟨rfl, hb⟩; rw [HL.out])
        | (go_at_call 20; refine (refLength_any l hl2 a b c d _).mono ?_; rintro e w' ⟨rfl, hb⟩; rw [HL.out])
        | (go_at_call 21; refine (is_any l hl2 a b c d _).mono ?_; rintro e w' ⟨rfl, hb⟩; rw [HI.out])
        | (go_at_call 22; refine (refIs_any l hl2 a b c d _).mono ?_; rintro e w' ⟨rfl, hb⟩; rw [HI.out])
        | (go_at_call 10; refine (awake_any _).mono ?_; rintro e w' ⟨rfl, hb⟩))
      all_goals (go_wp2_with fail; go_meet; refine ⟨rfl, below_eq hN.out ?_⟩; have hN := hN.out; repeat' (first | (with_reducible assumption) | (with_reducible exact Below.refl _ _) | (with_reducible refine Below.drew ?_) | (refine Below.transS (wx := ?_) hN ?_ ?_; rotate_left 2; assumption)))
    case rest =>
    obtain ⟨rfl, hc⟩ := hcut
    go_wp2_with fail
    go_ret
    exact ⟨rfl, hB.trans (hc.mono hB.size)⟩
end Go.Proofs.Ytheajdgdllobbaa
