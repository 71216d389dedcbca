/-
  token.Cut by the program, for every text.
-/
import Derived.Test.YtnnldmgdojhejaaDoorTQSet
import Derived.Test.YtnnldmgdojhejaaDoorQPLay
import Derived.Deep.DeepCutAuto
namespace Go.Proofs.YtnnldmgdojhejaaDoor
open Go.RowKit
attribute [local go_sem] ba_get
/-- How many bytes of tokens a text begins with. -/
def pre : List UInt8 → Nat
  | [] => 0
  | c :: r => if tokB c then pre r + 1 else 0
theorem pre_le : ∀ l, pre l ≤ l.length
  | [] => Nat.le_refl _
  | c :: r => by
    unfold pre
    have := pre_le r
    split <;> simp <;> omega
theorem pre_at {l : List UInt8} {k : Nat} (h : k < l.length) : pre (l.drop k) = if tokB l[k] then pre (l.drop (k + 1)) + 1 else 0 := by
  rw [List.drop_eq_getElem_cons h]; rfl
theorem tok_has (a b c d : BitVec 64) (HT : Hid (tokS = ⟨a, b, c, d⟩)) (n : Nat) (hn : n < 256) (w : World) :
    Calls Tryd.prog 42 #[.agg #[.int .u64 a.toNat, .int .u64 b.toNat, .int .u64 c.toNat, .int .u64 d.toNat], .int .u8 (n : Int)] w fun e w' => e = .returned (.bool (tokN n)) ∧ Below w.heap.size w w' := by
  have h := has_any a b c d (n : Int) (by omega) (by omega) w
  rw [← HT.out, Int.toNat_natCast, tokS_has n hn] at h
  exact h
set_option maxHeartbeats 2000000 in
theorem tleading_any (l : List UInt8) (hl : l.length < 1000000) (w : World) :
    Calls Tryd.prog 34 #[.string ⟨l.toArray⟩] w fun e w' => e = .returned (.int .i64 (pre l : Nat)) ∧ Below w.heap.size w w' := by
  obtain ⟨N, hN⟩ : ∃ N, pre l = N := ⟨_, rfl⟩
  rw [hN]
  have HN := Lib.hid hN
  clear hN
  obtain ⟨a, b, c, d, HT⟩ : ∃ a b c d, Hid (tokS = ⟨a, b, c, d⟩) := ⟨_, _, _, _, Lib.hid rfl⟩
  have HS := Lib.hid fun W => tokenSet_any a b c d HT W
  have HH := Lib.hid fun n hn W => tok_has a b c d HT n hn W
  clear HT
  go_enter Tryd.func34, Tryd.ntmps34
  go_wp2_with fail
  refine (HS.out _).mono ?_
  rintro e w1 ⟨rfl, hb⟩
  have b1 := Blk.new w1 ⟨a, b, c, d⟩
  have hB := hb.alloc hb.size (.cells #[.int .u64 a.toNat, .int .u64 b.toNat, .int .u64 c.toNat, .int .u64 d.toNat] 65)
  go_upto_region 2 with fail
  have hz := hb.size
  obtain ⟨B, hBe⟩ : ∃ B, w1.heap.size = B := ⟨_, rfl⟩
  obtain ⟨W, hW⟩ : ∃ W, w1.alloc (.cells #[.int .u64 a.toNat, .int .u64 b.toNat, .int .u64 c.toNat, .int .u64 d.toNat] 65) = W := ⟨_, rfl⟩
  rw [hBe] at b1 hz ⊢
  rw [hW] at b1 hB ⊢
  clear hBe hW hb
  go_wp2_with fail
  go_loopw [8] (fun i wr => ∃ k : Nat, k ≤ l.length ∧ i = .int .i64 k ∧ Hid (k + pre (l.drop k) = N) ∧ Blk wr B ⟨a, b, c, d⟩ ∧ Below w.heap.size w wr) (fun i _ => l.length - (intOf i).toNat)
  case atStart => exact ⟨0, Nat.zero_le _, rfl, Lib.hid (by rw [List.drop_zero, HN.out, Nat.zero_add]), b1, hB⟩
  case round =>
    clear b1 hB
    obtain ⟨k, hk, rfl, hp, b1, hB⟩ := hrel
    by_cases hlt : k < l.length
    · have h1 : decide ((k : Int) < (l.length : Int)) = true := decide_eq_true (by omega)
      have hb2 : (k : Int) < (l.length : Int) := by omega
      have hat := pre_at hlt
      have hlt2 : (l[k]).toNat < 256 := UInt8.toNat_lt _
      obtain ⟨v, hv⟩ : ∃ v, tokB l[k] = v := ⟨_, rfl⟩
      have hbw : tokN (l[k]).toNat = v := hv
      have HB := Lib.hid hbw
      rw [hv] at hat
      clear hv hbw
      obtain ⟨c0, c1, c2, c3⟩ := b1.cells4
      cases v
      · have hres : Hid (N = k) := Lib.hid (by rw [← hp.out, hat]; rfl)
        clear hat
        go_wp2_with fail
        go_region_with (go_at_call 42; refine (HH.out _ hlt2 _).mono ?_; rintro e w5 ⟨rfl, hb5⟩; rw [HB.out])
        all_goals
          go_wp2_with fail
          go_ret
          exact ⟨by rw [hres.out]; rfl, hB.trans (Below.trans (Below.refl _ wr).drew (hb5.mono hB.size))⟩
      · have hnext : Hid (k + 1 + pre (l.drop (k + 1)) = N) := Lib.hid (by have := hp.out; rw [hat, if_pos rfl] at this; omega)
        clear hat
        go_wp2_with fail
        go_region_with (go_at_call 42; refine (HH.out _ hlt2 _).mono ?_; rintro e w5 ⟨rfl, hb5⟩; rw [HB.out])
        all_goals
          go_wp2_with fail
          go_roundw
          case rel => exact ⟨k + 1, by omega, by go_num, hnext, b1.drew.below hb5 b1.lt, hB.trans (Below.trans (Below.refl _ wr).drew (hb5.mono hB.size))⟩
          case measure => simp [intOf]; omega
    · have h1 : decide ((k : Int) < (l.length : Int)) = false := decide_eq_false (by omega)
      obtain rfl : k = l.length := by omega
      have hres : Hid (N = l.length) := Lib.hid (by rw [← hp.out, List.drop_length]; rfl)
      go_wp2_with fail
      go_ret
      exact ⟨by rw [hres.out]; rfl, hB⟩
def cutR (l : List UInt8) : List UInt8 × List UInt8 × Nat := if pre l = 0 then ([], [], 6) else (l.take (pre l), l.drop (pre l), 0)
def cutV (l : List UInt8) : Value := .tuple #[.string ⟨(cutR l).1.toArray⟩, .string ⟨(cutR l).2.1.toArray⟩, .int .i64 ((cutR l).2.2 : Nat)]
set_option maxHeartbeats 2000000 in
theorem tcut_any (l : List UInt8) (hl : l.length < 1000000) (w : World) :
    Calls Tryd.prog 26 #[.string ⟨l.toArray⟩] w fun e w' => e = .returned (cutV l) ∧ Below w.heap.size w w' := by
  have hN := pre_le l
  have HL := Lib.hid fun W => tleading_any l hl W
  obtain ⟨N, hNe⟩ : ∃ N, pre l = N := ⟨_, rfl⟩
  have HR : Hid (cutV l = if N = 0 then .tuple #[.string ⟨#[]⟩, .string ⟨#[]⟩, .int .i64 6] else .tuple #[.string ⟨(l.take N).toArray⟩, .string ⟨(l.drop N).toArray⟩, .int .i64 0]) := Lib.hid (by
    unfold cutV cutR
    rw [hNe]
    split <;> rfl)
  rw [hNe] at HL hN
  clear hNe
  go_enter Tryd.func26, Tryd.ntmps26
  go_wp2_with fail
  refine (HL.out _).mono ?_
  rintro e w1 ⟨rfl, hb⟩
  by_cases h0 : N = 0
  · have HV : Hid (cutV l = .tuple #[.string ⟨#[]⟩, .string ⟨#[]⟩, .int .i64 6]) := Lib.hid (by rw [HR.out, if_pos h0])
    have h1 : ((N : Int) == 0) = true := by rw [beq_iff_eq]; omega
    clear h0
    go_wp2_with fail
    go_ret3
    exact ⟨by rw [HV.out]; rfl, hb⟩
  · have HV : Hid (cutV l = .tuple #[.string ⟨(l.take N).toArray⟩, .string ⟨(l.drop N).toArray⟩, .int .i64 0]) := Lib.hid (by rw [HR.out, if_neg h0])
    have h1 : ((N : Int) == 0) = false := by rw [beq_eq_false_iff_ne]; omega
    have g1 := qtake l N
    have g2 := qdrop l N
    have l1 : (l.take N).length < 1000000 := by rw [List.length_take]; omega
    have l2 : (l.drop N).length < 1000000 := by rw [List.length_drop]; omega
    have hb3 : (N : Int) ≤ (l.length : Int) := by omega
    have K1 := Lib.hid fun W => clone_any (l.take N) l1 W
    have K2 := Lib.hid fun W => clone_any (l.drop N) l2 W
    clear h0 l1 l2
    go_wp2_with fail
    go_region_with (first
      | (go_at_call 17; refine (K1.out _).mono ?_; rintro e w5 ⟨rfl, hb5⟩)
      | (go_at_call 17; refine (K2.out _).mono ?_; rintro e w6 ⟨rfl, hb6⟩))
    all_goals
      go_wp2_with fail
      go_ret3
      exact ⟨by rw [HV.out]; rfl, (hb.drew.trans (hb5.mono hb.size)).trans (hb6.mono (Nat.le_trans hb.size hb5.size))⟩
end Go.Proofs.YtnnldmgdojhejaaDoor
