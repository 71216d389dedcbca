/-
  The reference's One of splitters.
-/
import Derived.Test.YtfagjhadfonhdaaLOneF
import Derived.Deep.RegionLaw
import Derived.Deep.RegionHeld3
import Derived.Deep.RegionWith
namespace Go.Proofs.Ytfagjhadfonhdaa
open Go.RowKit
attribute [local go_sem] lba_get
set_option maxRecDepth 100000 in
set_option maxHeartbeats 4000000 in
theorem refOne7_any (s : Sp) (c : List UInt8) (hl : s.txt.length < 100000000000000) (hc : c.length < 100000000000000) (w : World) :
    Calls Try.prog 24 #[spV s, .string ⟨c.toArray⟩] w fun e w' => e = .returned (oneV s c) ∧ Below w.heap.size w w' := by
  obtain ⟨n, t, g⟩ := s
  dsimp only at hl
  obtain ⟨x, hx⟩ : ∃ x, chkS ⟨n, t, g⟩ = x := ⟨_, rfl⟩
  have HX := Lib.hid hx
  obtain ⟨W0, hW0⟩ : ∃ W0, ((w.alloc (.cells #[.int .i64 n, .string ⟨t.toArray⟩, .bool g] 24)).alloc (.cells #[.int .i64 0, .string ⟨#[]⟩, .bool false] 24)).alloc (.cells #[.string ⟨#[]⟩, .bool false] 27) = W0 := ⟨_, rfl⟩
  have hB : Below w.heap.size w W0 := by
    rw [← hW0]
    exact (((Below.refl _ _).alloc (Nat.le_refl _) _).alloc (by simp) _).alloc (by simp; omega) _
  have b1 : CBlk 24 W0 w.heap.size [.int .i64 n, .string ⟨t.toArray⟩, .bool g] := by
    rw [← hW0]
    exact ((CBlk.new _ w _).alloc _).alloc _
  have b2 : CBlk 24 W0 (w.heap.size + 1) [.int .i64 0, .string ⟨#[]⟩, .bool false] := by
    rw [← hW0]
    have h := (CBlk.new 24 (w.alloc (.cells #[.int .i64 n, .string ⟨t.toArray⟩, .bool g] 24)) [.int .i64 0, .string ⟨#[]⟩, .bool false]).alloc (.cells #[.string ⟨#[]⟩, .bool false] 27)
    simpa using h
  have b3 : CBlk 27 W0 (w.heap.size + 1 + 1) [.string ⟨#[]⟩, .bool false] := by
    rw [← hW0]
    have h := CBlk.new 27 ((w.alloc (.cells #[.int .i64 n, .string ⟨t.toArray⟩, .bool g] 24)).alloc (.cells #[.int .i64 0, .string ⟨#[]⟩, .bool false] 24)) [.string ⟨#[]⟩, .bool false]
    simpa using h
  have hs : W0.heap.size = w.heap.size + 3 := by rw [← hW0]; simp
  obtain ⟨a0, a1, a2⟩ := b1.cells3
  have HW := Lib.hid hW0
  have HB := Lib.hid hB
  have HB1 := Lib.hid b1
  have HB2 := Lib.hid b2
  have HB3 := Lib.hid b3
  have HS := Lib.hid hs
  clear hx hB b1 b2 b3 hs
  unfold spV
  go_enter Try.func24, Try.ntmps24
  go_upto_region 1 with fail
  clear hW0
  go_wp2_with fail
  refine (refCheckS_any ⟨n, t, g⟩ (by dsimp only; omega) _).mono ?_
  rintro e w1 ⟨rfl, hb⟩
  rw [HX.out]
  have HB := Lib.hid (HB.out.trans (hb.mono HB.out.size))
  have b1 := HB1.out.below hb HB1.out.lt
  have HB2 := Lib.hid (HB2.out.below hb HB2.out.lt)
  have HB3 := Lib.hid (HB3.out.below hb HB3.out.lt)
  have HS := Lib.hid (Nat.le_trans (Nat.le_of_eq HS.out.symm) hb.size)
  obtain ⟨a0, a1, a2⟩ := b1.cells3
  have HB1 := Lib.hid b1
  obtain ⟨p0, p1, p2⟩ := HB2.out.cells3
  have f0 := HB2.out.free 0
  have f1 := HB2.out.free 1
  have f2 := HB2.out.free 2
  obtain ⟨q0, q1⟩ := HB3.out.cells2
  have g0 := HB3.out.free 0
  have g1 := HB3.out.free 1
  clear hb b1
  by_cases h0 : x = 0
  · subst h0
    cases g
    · obtain ⟨R, hR⟩ : ∃ R, oneL n t c = R := ⟨_, rfl⟩
      have HV : Hid (oneV ⟨n, t, false⟩ c = oneW R 0) := Lib.hid (by rw [← hR]; unfold oneV oneR errS; rw [HX.out]; rfl)
      have H0 := Lib.hid hR
      clear hR
      go_wp2_with fail
      go_loopw [10, 11] (fun u i wr => ∃ (k : Nat) (T : List UInt8), k ≤ c.length ∧ T.length ≤ t.length + k ∧ u = .string ⟨T.toArray⟩ ∧ i = .int .i64 k ∧ Hid (oneL n T (c.drop k) = R) ∧ wr = w1) (fun u i _ => c.length - (intOf i).toNat)
      case atStart => exact ⟨0, t, Nat.zero_le _, Nat.le_refl _, rfl, rfl, by rw [List.drop_zero]; exact H0, rfl⟩
      case round =>
        obtain ⟨k, T, hk, hT, rfl, rfl, hp, rfl⟩ := hrel
        by_cases hlt : k < c.length
        · have h1 : decide ((k : Int) < (c.length : Int)) = true := decide_eq_true (by omega)
          have hb2 : (k : Int) < (c.length : Int) := by omega
          have hat := oneL_at (n := n) (t := T) hlt
          obtain ⟨z, hz⟩ : ∃ z, c[k] = z := ⟨_, rfl⟩
          have hone := lba_one c k hlt
          rw [hz] at hat hone
          obtain ⟨y, hy⟩ : ∃ y, z.toNat = y := ⟨_, rfl⟩
          have hy2 : (c[k]).toNat = y := by rw [hz, hy]
          rw [hy] at hat
          have hw1 : IntKind.i64.wrap ((k : Int) + 1) = (k : Int) + 1 := lwrap64 (by omega) (by omega)
          by_cases h10 : y = 10
          · have q1 : ((y : Int) == 10) = true := by rw [beq_iff_eq]; omega
            rw [if_pos h10] at hat
            have hres : Hid (R = (⟨n, [], false⟩, lineR T, c.drop (k + 1), true)) := Lib.hid (by rw [← hp.out, hat])
            have hd := lba_drop c (k + 1)
            have hk1 : (k : Int) + 1 ≤ (c.length : Int) := by omega
            have hk2 : ((k : Int) + 1).toNat = k + 1 := by omega
            clear hat h10 hone
            go_wp2_with fail
            go_region_with (go_at_call 42; refine (refLine7_any T (by omega) _).mono ?_; rintro e w2 ⟨rfl, hb⟩; have b1 := HB1.out.drew.below hb HB1.out.lt; obtain ⟨x0, x1, x2⟩ := b1.cells3; clear b1; have b2 := HB2.out.drew.below hb HB2.out.lt; have b3 := HB3.out.drew.below hb HB3.out.lt; have hB2 := HB.out.drew.trans (hb.mono HB.out.size); obtain ⟨y0, y1, y2⟩ := b2.cells3; have yf0 := b2.free 0; have yf1 := b2.free 1; have yf2 := b2.free 2; obtain ⟨z0, z1⟩ := b3.cells2; have zf0 := b3.free 0; have zf1 := b3.free 1; have b2 := Lib.hid b2; have b3 := Lib.hid b3; have hB2 := Lib.hid hB2; unfold lnV)
            all_goals
              go_wp2_with fail
              obtain ⟨g1, g2, g3⟩ := one_stores b2.out b3.out rfl rfl (by omega) hB2.out (by omega) (by omega) (.int .i64 n) (.string ⟨#[]⟩) (.bool false) (.string ⟨(lineR T).tx.toArray⟩) (.bool (lineR T).gd)
              exact bodyPost_ret (one_result g1 g2 rfl _ _ _ _ rfl rfl rfl rfl rfl) rfl ⟨by rw [HV.out, hres.out]; rfl, g3⟩
          · have q1 : ((y : Int) == 10) = false := by rw [beq_eq_false_iff_ne]; omega
            rw [if_neg h10] at hat
            by_cases hfull : (T.length : Int) = n
            · have q2 : ((T.length : Int) == n) = true := by rw [beq_iff_eq]; exact hfull
              rw [if_pos hfull] at hat
              have hres : Hid (R = (⟨n, [], true⟩, ⟨[], false⟩, [], false)) := Lib.hid (by rw [← hp.out, hat])
              clear hat h10 hone hfull
              go_wp2_with fail
              obtain ⟨g1, g2, g3⟩ := one_stores HB2.out HB3.out rfl rfl (by omega) HB.out (by omega) (by omega) (.int .i64 n) (.string ⟨#[]⟩) (.bool true) (.string ⟨#[]⟩) (.bool false)
              exact bodyPost_ret (one_result g1 g2 rfl _ _ _ _ rfl rfl rfl rfl rfl) rfl ⟨by rw [HV.out, hres.out]; rfl, g3⟩
            · have q2 : ((T.length : Int) == n) = false := by rw [beq_eq_false_iff_ne]; exact hfull
              rw [if_neg hfull] at hat
              have hnext : Hid (oneL n (T ++ [z]) (c.drop (k + 1)) = R) := Lib.hid (by rw [← hp.out, hat])
              have s1 : ∀ w, (Op.stringOp .add ⟨T.toArray⟩ ⟨[z].toArray⟩).run Try.prog w = .ok (.string ⟨(T ++ [z]).toArray⟩) w := fun w => lstr_add T [z] (by simp; omega)
              have hk1 : (k : Int) + 1 ≤ (c.length : Int) := by omega
              have hk2 : ((k : Int) + 1).toNat = k + 1 := by omega
              have hTl : (T ++ [z]).length ≤ t.length + (k + 1) := by simp; omega
              clear hat h10 hfull
              go_wp2_with fail
              go_roundw
              case rel => exact ⟨k + 1, T ++ [z], by omega, hTl, by simp, by go_num, hnext, trivial⟩
              case measure => simp [intOf]; omega
        · have h1 : decide ((k : Int) < (c.length : Int)) = false := decide_eq_false (by omega)
          have hres : Hid (R = (⟨n, T, false⟩, ⟨[], false⟩, [], false)) := Lib.hid (by rw [← hp.out, List.drop_eq_nil_of_le (by omega)]; rfl)
          go_wp2_with fail
          obtain ⟨g1, g2, g3⟩ := one_stores HB2.out HB3.out rfl rfl (by omega) HB.out (by omega) (by omega) (.int .i64 n) (.string ⟨T.toArray⟩) (.bool false) (.string ⟨#[]⟩) (.bool false)
          exact bodyPost_ret (one_result g1 g2 rfl _ _ _ _ rfl rfl rfl rfl rfl) rfl ⟨by rw [HV.out, hres.out]; rfl, g3⟩
    · have HV : Hid (oneV ⟨n, t, true⟩ c = oneW (zeroS, zeroL, [], false) 9) := Lib.hid (by unfold oneV oneR errS; rw [HX.out]; rfl)
      go_wp2_with fail
      obtain ⟨g1, g2, g3⟩ := one_stores HB2.out HB3.out rfl rfl (by omega) HB.out (by omega) (by omega) (.int .i64 0) (.string ⟨#[]⟩) (.bool false) (.string ⟨#[]⟩) (.bool false)
      exact bodyPost_ret (one_result g1 g2 rfl _ _ _ _ rfl rfl rfl rfl rfl) rfl ⟨by rw [HV.out]; rfl, g3⟩
  · have e0 : ((x : Int) == 0) = false := by rw [beq_eq_false_iff_ne]; omega
    have HV : Hid (oneV ⟨n, t, g⟩ c = oneW (zeroS, zeroL, [], false) x) := Lib.hid (by unfold oneV oneR errS; rw [HX.out, if_neg h0, if_neg h0])
    clear h0
    go_wp2_with fail
    obtain ⟨g1, g2, g3⟩ := one_stores HB2.out HB3.out rfl rfl (by omega) HB.out (by omega) (by omega) (.int .i64 0) (.string ⟨#[]⟩) (.bool false) (.string ⟨#[]⟩) (.bool false)
    exact bodyPost_ret (one_result g1 g2 rfl _ _ _ _ rfl rfl rfl rfl rfl) rfl ⟨by rw [HV.out]; rfl, g3⟩
end Go.Proofs.Ytfagjhadfonhdaa
