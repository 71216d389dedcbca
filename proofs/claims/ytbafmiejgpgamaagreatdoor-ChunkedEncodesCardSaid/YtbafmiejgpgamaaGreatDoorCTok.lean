/-
  token.Cut and token.Colon by the program, for every text; chunked.isTrailer.
-/
import Derived.Test.YtbafmiejgpgamaaGreatDoorCLay
import Derived.Deep.DeepCutAuto
namespace Go.Proofs.YtbafmiejgpgamaaGreatDoor
open Go.RowKit
attribute [local go_sem] ba_get
theorem tok_has (a b c d : BitVec 64) (HT : Hid (tokS = ⟨a, b, c, d⟩)) (n : Nat) (hn : n < 256) (w : World) :
    Calls Tryz.prog 109 #[.agg #[.int .u64 a.toNat, .int .u64 b.toNat, .int .u64 c.toNat, .int .u64 d.toNat], .int .u8 (n : Int)] w fun e w' => e = .returned (.bool (tokN n)) ∧ Below w.heap.size w w' := by
  have h := has_any a b c d (n : Int) (by omega) (by omega) w
  rw [← HT.out, Int.toNat_natCast, tokS_has n hn] at h
  exact h
set_option maxHeartbeats 2000000 in
theorem tleading_any (l : List UInt8) (hl : l.length < 1000000) (w : World) :
    Calls Tryz.prog 102 #[.string ⟨l.toArray⟩] w fun e w' => e = .returned (.int .i64 (pre l : Nat)) ∧ Below w.heap.size w w' := by
  obtain ⟨N, hN⟩ : ∃ N, pre l = N := ⟨_, rfl⟩
  rw [hN]
  have HN := Lib.hid hN
  clear hN
  obtain ⟨a, b, c, d, HT⟩ : ∃ a b c d, Hid (tokS = ⟨a, b, c, d⟩) := ⟨_, _, _, _, Lib.hid rfl⟩
  have HS := Lib.hid fun W => tokenSet_any a b c d HT W
  have HH := Lib.hid fun n hn W => tok_has a b c d HT n hn W
  clear HT
  go_enter Tryz.func102, Tryz.ntmps102
  go_wp2_with fail
  refine (HS.out _).mono ?_
  rintro e w1 ⟨rfl, hb⟩
  have b1 := Blk.new w1 ⟨a, b, c, d⟩
  have hB := hb.alloc hb.size (.cells #[.int .u64 a.toNat, .int .u64 b.toNat, .int .u64 c.toNat, .int .u64 d.toNat] 111)
  go_upto_region 2 with fail
  have hz := hb.size
  obtain ⟨B, hBe⟩ : ∃ B, w1.heap.size = B := ⟨_, rfl⟩
  obtain ⟨W, hW⟩ : ∃ W, w1.alloc (.cells #[.int .u64 a.toNat, .int .u64 b.toNat, .int .u64 c.toNat, .int .u64 d.toNat] 111) = W := ⟨_, rfl⟩
  rw [hBe] at b1 hz ⊢
  rw [hW] at b1 hB ⊢
  clear hBe hW hb
  go_wp2_with fail
  go_loopw [8] (fun i wr => ∃ k : Nat, k ≤ l.length ∧ i = .int .i64 k ∧ Hid (k + pre (l.drop k) = N) ∧ Blk wr B ⟨a, b, c, d⟩ ∧ Below w.heap.size w wr) (fun i _ => l.length - (intOf i).toNat)
  case atStart => exact ⟨0, Nat.zero_le _, rfl, Lib.hid (by rw [List.drop_zero, HN.out, Nat.zero_add]), b1, hB⟩
  case round =>
    clear b1 hB
    obtain ⟨k, hk, rfl, hp, b1, hB⟩ := hrel
    by_cases hlt : k < l.length
    · have h1 : decide ((k : Int) < (l.length : Int)) = true := decide_eq_true (by omega)
      have hb2 : (k : Int) < (l.length : Int) := by omega
      have hat := pre_at hlt
      have hlt2 : (l[k]).toNat < 256 := UInt8.toNat_lt _
      obtain ⟨v, hv⟩ : ∃ v, tokB l[k] = v := ⟨_, rfl⟩
      have hbw : tokN (l[k]).toNat = v := hv
      have HB := Lib.hid hbw
      rw [hv] at hat
      clear hv hbw
      obtain ⟨c0, c1, c2, c3⟩ := b1.cells4
      cases v
      · have hres : Hid (N = k) := Lib.hid (by rw [← hp.out, hat]; rfl)
        clear hat
        go_wp2_with fail
        go_region_with (go_at_call 109; refine (HH.out _ hlt2 _).mono ?_; rintro e w5 ⟨rfl, hb5⟩; rw [HB.out])
        all_goals
          go_wp2_with fail
          go_ret
          exact ⟨by rw [hres.out]; rfl, hB.trans (Below.trans (Below.refl _ wr).drew (hb5.mono hB.size))⟩
      · have hnext : Hid (k + 1 + pre (l.drop (k + 1)) = N) := Lib.hid (by have := hp.out; rw [hat, if_pos rfl] at this; omega)
        clear hat
        go_wp2_with fail
        go_region_with (go_at_call 109; refine (HH.out _ hlt2 _).mono ?_; rintro e w5 ⟨rfl, hb5⟩; rw [HB.out])
        all_goals
          go_wp2_with fail
          go_roundw
          case rel => exact ⟨k + 1, by omega, by go_num, hnext, b1.drew.below hb5 b1.lt, hB.trans (Below.trans (Below.refl _ wr).drew (hb5.mono hB.size))⟩
          case measure => simp [intOf]; omega
    · have h1 : decide ((k : Int) < (l.length : Int)) = false := decide_eq_false (by omega)
      obtain rfl : k = l.length := by omega
      have hres : Hid (N = l.length) := Lib.hid (by rw [← hp.out, List.drop_length]; rfl)
      go_wp2_with fail
      go_ret
      exact ⟨by rw [hres.out]; rfl, hB⟩
set_option maxHeartbeats 2000000 in
theorem tcut_any (l : List UInt8) (hl : l.length < 1000000) (w : World) :
    Calls Tryz.prog 95 #[.string ⟨l.toArray⟩] w fun e w' => e = .returned (cutV l) ∧ Below w.heap.size w w' := by
  have hN := pre_le l
  have HL := Lib.hid fun W => tleading_any l hl W
  obtain ⟨N, hNe⟩ : ∃ N, pre l = N := ⟨_, rfl⟩
  have HR : Hid (cutV l = if N = 0 then .tuple #[.string ⟨#[]⟩, .string ⟨#[]⟩, .int .i64 6] else .tuple #[.string ⟨(l.take N).toArray⟩, .string ⟨(l.drop N).toArray⟩, .int .i64 0]) := Lib.hid (by
    unfold cutV cutR
    rw [hNe]
    split <;> rfl)
  rw [hNe] at HL hN
  clear hNe
  go_enter Tryz.func95, Tryz.ntmps95
  go_wp2_with fail
  refine (HL.out _).mono ?_
  rintro e w1 ⟨rfl, hb⟩
  by_cases h0 : N = 0
  · have HV : Hid (cutV l = .tuple #[.string ⟨#[]⟩, .string ⟨#[]⟩, .int .i64 6]) := Lib.hid (by rw [HR.out, if_pos h0])
    have h1 : ((N : Int) == 0) = true := by rw [beq_iff_eq]; omega
    clear h0
    go_wp2_with fail
    go_ret3
    exact ⟨by rw [HV.out]; rfl, hb⟩
  · have HV : Hid (cutV l = .tuple #[.string ⟨(l.take N).toArray⟩, .string ⟨(l.drop N).toArray⟩, .int .i64 0]) := Lib.hid (by rw [HR.out, if_neg h0])
    have h1 : ((N : Int) == 0) = false := by rw [beq_eq_false_iff_ne]; omega
    have g1 := ba_take l N
    have g2 := ba_drop l N
    have l1 : (l.take N).length < 1000000 := by rw [List.length_take]; omega
    have l2 : (l.drop N).length < 1000000 := by rw [List.length_drop]; omega
    have hb3 : (N : Int) ≤ (l.length : Int) := by omega
    have K1 := Lib.hid fun W => clone_any (l.take N) l1 W
    have K2 := Lib.hid fun W => clone_any (l.drop N) l2 W
    clear h0 l1 l2
    go_wp2_with fail
    set_option maxRecDepth 4000 in
    go_region_with (first
      | (go_at_call 36; refine (K1.out _).mono ?_; rintro e w5 ⟨rfl, hb5⟩)
      | (go_at_call 36; refine (K2.out _).mono ?_; rintro e w6 ⟨rfl, hb6⟩))
    all_goals
      go_wp2_with fail
      go_ret3
      exact ⟨by rw [HV.out]; rfl, (hb.drew.trans (hb5.mono hb.size)).trans (hb6.mono (Nat.le_trans hb.size hb5.size))⟩
theorem pfx_colon (c : UInt8) (r : List UInt8) : Lib.hasPrefix (c :: r) [58] = (c.toNat == 58) := by
  unfold Lib.hasPrefix
  rw [Bool.eq_iff_iff]
  simp [← UInt8.toNat_inj]
  exact eq_comm
set_option maxHeartbeats 2000000 in
theorem tcolon_any (l : List UInt8) (hl : l.length < 1000000) (w : World) (hT : NTab w) :
    Calls Tryz.prog 82 #[.string ⟨l.toArray⟩] w fun e w' => e = .returned (colV l) ∧ Below w.heap.size w w' := by
  have h := fun W => tcut_any l hl W
  by_cases h0 : pre l = 0
  · have HC : Hid (cutV l = .tuple #[.string ⟨#[]⟩, .string ⟨#[]⟩, .int .i64 6]) := Lib.hid (by unfold cutV cutR; rw [if_pos h0]; rfl)
    have HV : Hid (colV l = .tuple #[.string ⟨#[]⟩, .string ⟨#[]⟩, .int .i64 3]) := Lib.hid (by unfold colV colR; rw [if_pos h0]; rfl)
    have H := Lib.hid h
    clear h h0 hT
    go_enter Tryz.func82, Tryz.ntmps82
    go_wp2_with fail
    refine (H.out _).mono ?_
    rintro e w1 ⟨rfl, hB⟩
    rw [HC.out]
    go_wp2_with fail
    go_ret3
    exact ⟨by rw [HV.out]; rfl, hB⟩
  · have hrl : (l.drop (pre l)).length < 1000000 := by rw [List.length_drop]; omega
    obtain ⟨A, hA⟩ : ∃ A, l.take (pre l) = A := ⟨_, rfl⟩
    obtain ⟨r, hr⟩ : ∃ r, l.drop (pre l) = r := ⟨_, rfl⟩
    have HC : Hid (cutV l = .tuple #[.string ⟨A.toArray⟩, .string ⟨r.toArray⟩, .int .i64 0]) := Lib.hid (by unfold cutV cutR; rw [if_neg h0, hA, hr]; rfl)
    have hcol : colR l = colT A r := by unfold colR; rw [if_neg h0, hA, hr]
    have HV : Hid (colV l = .tuple #[.string ⟨(colT A r).1.toArray⟩, .string ⟨(colT A r).2.1.toArray⟩, .int .i64 ((colT A r).2.2 : Nat)]) := Lib.hid (by unfold colV; rw [hcol])
    rw [hr] at hrl
    have H := Lib.hid h
    clear h h0 hA hr hcol
    cases r with
    | nil =>
      have HP := Lib.hid fun W => prefix_any [] [58] W
      have HP2 : Hid (Lib.hasPrefix [] [58] = false) := Lib.hid (by decide +kernel)
      go_enter Tryz.func82, Tryz.ntmps82
      go_wp2_with fail
      refine (H.out _).mono ?_
      rintro e w1 ⟨rfl, hB⟩
      rw [HC.out]
      go_wp2_with fail
      refine (HP.out _).mono ?_
      rintro e w2 ⟨rfl, rfl⟩
      rw [HP2.out]
      go_wp2_with fail
      go_ret3
      exact ⟨by rw [HV.out]; rfl, hB⟩
    | cons c r =>
      have hrl2 : r.length < 1000000 := by simp at hrl; omega
      have g1 := ba_tail c r
      have hct : colT A (c :: r) = if c.toNat = 58 ∧ valV (trimL r) = true then (A, trimL r, 0) else ([], [], 3) := rfl
      have htl := trim_length r
      have HP := Lib.hid fun W => prefix_any (c :: r) [58] W
      have hpf := pfx_colon c r
      obtain ⟨y, hy⟩ : ∃ y, c.toNat = y := ⟨_, rfl⟩
      obtain ⟨T, hT1⟩ : ∃ T, trimL r = T := ⟨_, rfl⟩
      obtain ⟨b, hb⟩ : ∃ b, valV T = b := ⟨_, rfl⟩
      rw [hT1] at hct htl
      rw [hy, hb] at hct
      rw [hy] at hpf
      have HT := Lib.hid hT1
      have HBV := Lib.hid hb
      have HCT := Lib.hid hct
      have hN := Lib.hid hT
      clear hT hT1 hb hct
      by_cases h58 : y = 58
      · have hp1 : Hid (Lib.hasPrefix (c :: r) [58] = true) := Lib.hid (by rw [hpf, beq_iff_eq]; exact h58)
        clear hpf
        cases b
        · have HV2 : Hid (colV l = .tuple #[.string ⟨#[]⟩, .string ⟨#[]⟩, .int .i64 3]) := Lib.hid (by rw [HV.out, HCT.out, if_neg (by simp)]; rfl)
          clear h58
          go_enter Tryz.func82, Tryz.ntmps82
          go_wp2_with fail
          refine (H.out _).mono ?_
          rintro e w1 ⟨rfl, hB⟩
          rw [HC.out]
          go_wp2_with fail
          refine (HP.out _).mono ?_
          rintro e w2 ⟨rfl, rfl⟩
          rw [hp1.out]
          go_wp2_with fail
          refine (ttrim_any r hrl2 _).mono ?_
          rintro e w2 ⟨rfl, hb2⟩
          rw [HT.out]
          have hB2 := hB.trans (hb2.mono hB.size)
          go_wp2_with fail
          refine (tvalue_any T (by omega) _ (hN.out.below hB2)).mono ?_
          rintro e w3 ⟨rfl, hb3⟩
          rw [HBV.out]
          have hB3 := hB2.trans (hb3.mono hB2.size)
          go_wp2_with fail
          go_ret3
          exact ⟨by rw [HV2.out]; rfl, hB3⟩
        · have HV2 : Hid (colV l = .tuple #[.string ⟨A.toArray⟩, .string ⟨T.toArray⟩, .int .i64 0]) := Lib.hid (by rw [HV.out, HCT.out, if_pos ⟨h58, rfl⟩]; rfl)
          clear h58
          go_enter Tryz.func82, Tryz.ntmps82
          go_wp2_with fail
          refine (H.out _).mono ?_
          rintro e w1 ⟨rfl, hB⟩
          rw [HC.out]
          go_wp2_with fail
          refine (HP.out _).mono ?_
          rintro e w2 ⟨rfl, rfl⟩
          rw [hp1.out]
          go_wp2_with fail
          refine (ttrim_any r hrl2 _).mono ?_
          rintro e w2 ⟨rfl, hb2⟩
          rw [HT.out]
          have hB2 := hB.trans (hb2.mono hB.size)
          go_wp2_with fail
          refine (tvalue_any T (by omega) _ (hN.out.below hB2)).mono ?_
          rintro e w3 ⟨rfl, hb3⟩
          rw [HBV.out]
          have hB3 := hB2.trans (hb3.mono hB2.size)
          go_wp2_with fail
          go_ret3
          exact ⟨by rw [HV2.out]; rfl, hB3⟩
      · have hp1 : Hid (Lib.hasPrefix (c :: r) [58] = false) := Lib.hid (by rw [hpf, beq_eq_false_iff_ne]; exact h58)
        clear hpf
        have HV2 : Hid (colV l = .tuple #[.string ⟨#[]⟩, .string ⟨#[]⟩, .int .i64 3]) := Lib.hid (by rw [HV.out, HCT.out, if_neg (fun h => h58 h.1)]; rfl)
        clear h58
        go_enter Tryz.func82, Tryz.ntmps82
        go_wp2_with fail
        refine (H.out _).mono ?_
        rintro e w1 ⟨rfl, hB⟩
        rw [HC.out]
        go_wp2_with fail
        refine (HP.out _).mono ?_
        rintro e w2 ⟨rfl, rfl⟩
        rw [hp1.out]
        go_wp2_with fail
        go_ret3
        exact ⟨by rw [HV2.out]; rfl, hB⟩
/-- A trailer line. -/
def trlB (l : List UInt8) : Bool := (colR l).2.2 == 0
set_option maxHeartbeats 1000000 in
theorem isTrailer_any (l : List UInt8) (hl : l.length < 1000000) (w : World) (hT : NTab w) :
    Calls Tryz.prog 69 #[.string ⟨l.toArray⟩] w fun e w' => e = .returned (.bool (trlB l)) ∧ Below w.heap.size w w' := by
  have H := Lib.hid (tcolon_any l hl w hT)
  obtain ⟨x, hx⟩ : ∃ x, (colR l).2.2 = x := ⟨_, rfl⟩
  have HV : Hid (colV l = .tuple #[.string ⟨(colR l).1.toArray⟩, .string ⟨(colR l).2.1.toArray⟩, .int .i64 (x : Nat)]) := Lib.hid (by unfold colV; rw [hx])
  have HR : Hid (trlB l = (x == 0)) := Lib.hid (by unfold trlB; rw [hx])
  clear hx
  have e1 : ((x : Int) == 0) = (x == 0) := by
    rw [Bool.eq_iff_iff, beq_iff_eq, beq_iff_eq]; omega
  obtain ⟨r, hr⟩ : ∃ r, (x == 0) = r := ⟨_, rfl⟩
  rw [hr] at e1 HR
  clear hr hT
  go_enter Tryz.func69, Tryz.ntmps69
  go_wp2_with fail
  refine H.out.mono ?_
  rintro e w1 ⟨rfl, hB⟩
  rw [HV.out]
  go_wp2_with fail
  go_ret
  exact ⟨by rw [HR.out]; rfl, hB⟩
end Go.Proofs.YtbafmiejgpgamaaGreatDoor
