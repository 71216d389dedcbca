/-
  The law NumberBack returns true for every input.
-/
import Derived.Test.YtekbahpobhjobaaDoorNKnown
import Derived.Test.YtekbahpobhjobaaDoorNNum
import Derived.Test.YtekbahpobhjobaaDoorKMod
namespace Go.Proofs.YtekbahpobhjobaaDoor
open Go.RowKit
theorem decB_ok {h : Bool} {l : List UInt8} {digits : Int} {most n : Nat} (h0 : 0 < l.length) (hp : prefF h l = l.length) (hn : numL h l = n) (hd : (l.length : Int) ≤ digits) (hm : n ≤ most) (hmost : most < U64) : decB h l digits most n 0 = true := by
  unfold decB
  rw [readR_ok h0 hp hd (by rw [hn]; exact hm) hmost, hn]; simp
theorem decB_long {h : Bool} {l : List UInt8} {digits : Int} {most : Nat} (h0 : 0 < l.length) (hp : prefF h l = l.length) (hd : digits < (l.length : Int)) : decB h l digits most 0 4 = true := by
  unfold decB
  rw [readR_long h0 hp hd]; rfl
theorem decB_range {h : Bool} {l : List UInt8} {digits : Int} {most : Nat} (h0 : 0 < l.length) (hp : prefF h l = l.length) (hd : (l.length : Int) ≤ digits) (hm : most < numL h l) : decB h l digits most 0 2 = true := by
  unfold decB
  rw [readR_range h0 hp hd hm]; rfl
def leB (x n : Nat) : Bool := decide (x ≤ U64 - 1 - n)
theorem le_int (x n : Nat) (hn : n < U64) : decide ((x : Int) ≤ IntKind.u64.wrap ((18446744073709551615 : Int) - (n : Int))) = leB x n := by
  have e : IntKind.u64.wrap ((18446744073709551615 : Int) - (n : Int)) = ((U64 - 1 - n : Nat) : Int) := wrapU' (by unfold U64 at hn ⊢; omega) (by omega)
  unfold leB
  rw [e, decide_eq_decide]
  exact Int.ofNat_le
set_option maxRecDepth 100000 in
set_option maxHeartbeats 8000000 in
theorem back_law (n : Nat) (hn : n < U64) (more : Int) (by0 : Nat) (w : World) (hNT : NTab w) :
    Calls Tryd.prog 6 #[.int .u64 (n : Int), .int .i64 more, .int .u64 (by0 : Int)] w fun e w' => e = .returned (.bool true) ∧ Below w.heap.size w w' := by
  have hr := modI_range more 41 (by omega)
  obtain ⟨k, hk⟩ := Int.eq_ofNat_of_zero_le hr.1
  rw [hk] at hr
  have HK := Lib.hid hk
  have hk41 : k < 41 := by omega
  obtain ⟨i1, i2⟩ := digL_is false n hn
  obtain ⟨j1, j2⟩ := digL_is true n hn
  obtain ⟨l1, l2⟩ := digL_length 10 n
  obtain ⟨m1, m2⟩ := digL_length 16 n
  obtain ⟨S, hSe⟩ : ∃ S, digL 10 n = S := ⟨_, rfl⟩
  obtain ⟨T, hTe⟩ : ∃ T, digL 16 n = T := ⟨_, rfl⟩
  rw [show digL (baseN false) n = S from hSe] at i1 i2
  rw [show digL (baseN true) n = T from hTe] at j1 j2
  rw [hSe] at l1 l2
  rw [hTe] at m1 m2
  have HS := Lib.hid hSe
  have HT := Lib.hid hTe
  have hS : S.length < 100000 := by omega
  have hT : T.length < 100000 := by omega
  obtain ⟨M, hMn, hM, hsum⟩ : ∃ M, n ≤ M ∧ M < U64 ∧ ((by0 ≤ U64 - 1 - n ∧ n + by0 = M) ∨ (¬ by0 ≤ U64 - 1 - n ∧ n = M)) := by
    by_cases h : by0 ≤ U64 - 1 - n
    · exact ⟨n + by0, by omega, by omega, Or.inl ⟨h, rfl⟩⟩
    · exact ⟨n, Nat.le_refl _, hn, Or.inr ⟨h, rfl⟩⟩
  have D1 := Lib.hid (decB_ok (digits := (S.length : Int)) (most := n) l1 i2 i1 (by omega) (Nat.le_refl _) hn)
  have D2 := Lib.hid (decB_ok (digits := (T.length : Int)) (most := n) m1 j2 j1 (by omega) (Nat.le_refl _) hn)
  have D3 := Lib.hid (decB_ok (digits := (S.length : Int) + (k : Int)) (most := M) l1 i2 i1 (by omega) hMn hM)
  have D4 := Lib.hid (decB_ok (digits := (T.length : Int) + (k : Int)) (most := M) m1 j2 j1 (by omega) hMn hM)
  have D5 := Lib.hid (decB_long (digits := (S.length : Int) - 1) (most := n) l1 i2 (by omega))
  have D6 : Hid (0 < n → decB false S (S.length : Int) (n - 1) 0 2 = true) := Lib.hid (fun h => decB_range l1 i2 (by omega) (by rw [i1]; omega))
  have hS1 : 1 ≤ (S.length : Int) := by omega
  obtain ⟨q, hq⟩ : ∃ q, leB by0 n = q := ⟨_, rfl⟩
  have HQ := Lib.hid hq
  have hsum2 : Hid (if q then n + by0 = M else n = M) := Lib.hid (by
    rw [← hq]; unfold leB
    rcases hsum with ⟨h1, h2⟩ | ⟨h1, h2⟩
    · rw [decide_eq_true h1]; exact h2
    · rw [decide_eq_false h1]; exact h2)
  clear i1 i2 j1 j2 hSe hTe hk hr hsum hq hMn
  go_enter Tryd.func6, Tryd.ntmps6
  go_wp2_with fail
  refine (mod_any more 41 (by omega) (by omega) _).mono ?_
  rintro z w' ⟨rfl, rfl⟩
  rw [HK.out]
  go_upto_region 3 with fail
  go_cut [17] (fun p wx => p = .bool q ∧ w = wx)
  case first =>
    go_wp2_with fail
    go_meet
    exact ⟨by rw [le_int by0 n hn, HQ.out], rfl⟩
  case rest =>
  obtain ⟨rfl, rfl⟩ := hcut
  go_upto_if 17 with fail
  go_cut [8] (fun p wx => p = .int .u64 (M : Int) ∧ w = wx)
  case first =>
    cases q
    · have hs := hsum2.out
      simp at hs
      subst hs
      go_wp2_with fail
      go_meet
      exact ⟨rfl, rfl⟩
    · have hs : n + by0 = M := hsum2.out
      have q1 : IntKind.u64.wrap ((n : Int) + (by0 : Int)) = (M : Int) := wrapU' (by rw [← hs]; push_cast; rfl) hM
      clear hs
      go_wp2_with fail
      go_meet
      exact ⟨rfl, rfl⟩
  case rest =>
  obtain ⟨rfl, rfl⟩ := hcut
  have hB := Below.refl w.heap.size w
  go_wp2_with fail
  refine (decText_any n hn _ (by first | exact hNT | exact hNT.below hB | exact hNT.below hB.drew | exact hNT.below (by assumption))).mono ?_
  rintro y v21 ⟨rfl, hb⟩
  rw [HS.out]
  have hB := hB.trans (hb.mono hB.size)
  clear hb
  go_wp2_with fail
  refine (hexText_any n hn _ (by first | exact hNT | exact hNT.below hB | exact hNT.below hB.drew | exact hNT.below (by assumption))).mono ?_
  rintro y v22 ⟨rfl, hb⟩
  rw [HT.out]
  have hB := hB.trans (hb.mono hB.size)
  clear hb
  go_wp2_with fail
  refine (ldec_any S hS (S.length : Int) n hn n 0 _).mono ?_
  rintro y v23 ⟨rfl, hb⟩
  rw [D1.out]
  have hB := hB.trans (hb.mono hB.size)
  clear hb
  go_wp2_with fail
  refine (lhex_any T hT (T.length : Int) n hn n 0 _).mono ?_
  rintro y v24 ⟨rfl, hb⟩
  rw [D2.out]
  have hB := hB.trans (hb.mono hB.size)
  clear hb
  go_wp2_with fail
  refine (ldec_any S hS ((S.length : Int) + (k : Int)) M hM n 0 _).mono ?_
  rintro y v25 ⟨rfl, hb⟩
  rw [D3.out]
  have hB := hB.trans (hb.mono hB.size)
  clear hb
  go_wp2_with fail
  refine (lhex_any T hT ((T.length : Int) + (k : Int)) M hM n 0 _).mono ?_
  rintro y v26 ⟨rfl, hb⟩
  rw [D4.out]
  have hB := hB.trans (hb.mono hB.size)
  clear hb
  go_wp2_with fail
  refine (ldec_any S hS ((S.length : Int) - 1) n hn 0 4 _).mono ?_
  rintro y v27 ⟨rfl, hb⟩
  rw [D5.out]
  have hB := hB.trans (hb.mono hB.size)
  clear hb
  go_upto_region 8 with fail
  by_cases h0 : n = 0
  · have e1 : ((n : Int) == 0) = true := by rw [beq_iff_eq]; omega
    clear D6 hsum2
    go_wp2_with fail
    refine (awake_any _ (by first | exact hNT | exact hNT.below hB | exact hNT.below hB.drew | exact hNT.below (by assumption))).mono ?_
    rintro y v41 ⟨rfl, hb⟩
    have hB := hB.trans (hb.mono hB.size)
    clear hb
    go_wp2_with fail
    go_ret
    exact ⟨rfl, hB⟩
  · have e1 : ((n : Int) == 0) = false := by rw [beq_eq_false_iff_ne]; omega
    have e2 : (n == 0) = false := by rw [beq_eq_false_iff_ne]; omega
    have D6 := Lib.hid (D6.out (by omega))
    obtain ⟨p, hpe⟩ : ∃ p, n - 1 = p := ⟨_, rfl⟩
    have hp : p < U64 := by omega
    have q3 : (n : Int) - 1 = (p : Int) := by omega
    have q4 : IntKind.u64.wrap (p : Int) = (p : Int) := wrapU hp
    rw [hpe] at D6
    clear hpe h0 hsum2
    go_wp2_with fail
    refine (ldec_any S hS (S.length : Int) p hp 0 2 _).mono ?_
    rintro y v41 ⟨rfl, hb⟩
    rw [D6.out]
    have hB := hB.trans (hb.mono hB.size)
    clear hb
    go_wp2_with fail
    refine (awake_any _ (by first | exact hNT | exact hNT.below hB | exact hNT.below hB.drew | exact hNT.below (by assumption))).mono ?_
    rintro y v42 ⟨rfl, hb⟩
    have hB := hB.trans (hb.mono hB.size)
    clear hb
    go_wp2_with fail
    go_ret
    exact ⟨rfl, hB⟩
end Go.Proofs.YtekbahpobhjobaaDoor
