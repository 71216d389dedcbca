/-
  The law NumberLists returns true for every input.
-/
import Derived.Test.YtekbahpobhjobaaDoorNBack
import Derived.Test.YtekbahpobhjobaaDoorNListF
import Derived.Test.YtekbahpobhjobaaDoorICells
import Derived.RegionTactic
import Derived.BigRegion
namespace Go.Proofs.YtekbahpobhjobaaDoor
open Go.RowKit
attribute [local go_sem] ba_get
def bl1 : Nat → List UInt8 | 0 => [] | 1 => [32] | _ => [9, 32]
def bl2 : Nat → List UInt8 | 0 => [] | 1 => [32] | _ => [32, 9]
theorem bl1_is (r : Nat) : ∀ c ∈ bl1 r, isBl c = true := by
  match r with
  | 0 => simp [bl1]
  | 1 => simp [bl1]; decide
  | _ + 2 => simp [bl1]; decide
theorem bl2_is (r : Nat) : ∀ c ∈ bl2 r, isBl c = true := by
  match r with
  | 0 => simp [bl2]
  | 1 => simp [bl2]; decide
  | _ + 2 => simp [bl2]; decide
theorem bl1_at (r : Nat) : ∀ h, ([.string ⟨#[]⟩, .string ⟨#[32]⟩, .string ⟨#[9, 32]⟩] : List Value)[r]'h = .string ⟨(bl1 r).toArray⟩ := by
  intro h
  match r, h with
  | 0, _ => rfl
  | 1, _ => rfl
  | 2, _ => rfl
theorem bl2_at (r : Nat) : ∀ h, ([.string ⟨#[]⟩, .string ⟨#[32]⟩, .string ⟨#[32, 9]⟩] : List Value)[r]'h = .string ⟨(bl2 r).toArray⟩ := by
  intro h
  match r, h with
  | 0, _ => rfl
  | 1, _ => rfl
  | 2, _ => rfl
theorem zz_take (r : Nat) (h : r < 3) : (ByteArray.mk #[48, 48, 48]).extract 0 r = ⟨(List.replicate r (48 : UInt8)).toArray⟩ := by
  match r, h with
  | 0, _ => rfl
  | 1, _ => rfl
  | 2, _ => rfl
def eqMax (n : Nat) : Bool := n + 1 == U64
theorem eq_int (n : Nat) : ((n : Int) == 18446744073709551615) = eqMax n := by
  unfold eqMax U64
  rw [Bool.eq_iff_iff, beq_iff_eq, beq_iff_eq]
  omega
def othN (n : Nat) : Nat := if eqMax n then 0 else n + 1
theorem oth_lt {n : Nat} (hn : n < U64) : othN n < U64 ∧ othN n ≠ n := by
  unfold othN
  cases h : eqMax n
  · have h2 : n + 1 ≠ U64 := by unfold eqMax at h; exact beq_eq_false_iff_ne.1 h
    exact ⟨by simp; omega, by simp⟩
  · have h2 : n + 1 = U64 := by unfold eqMax at h; exact beq_iff_eq.1 h
    have : 2 < U64 := by decide
    exact ⟨by simp; omega, by simp; omega⟩
theorem oth_wrap {n : Nat} (hn : n < U64) : IntKind.u64.wrap ((n : Int) + 1) = (othN n : Int) := by
  unfold othN
  cases h : eqMax n
  · have h2 : n + 1 ≠ U64 := by unfold eqMax at h; exact beq_eq_false_iff_ne.1 h
    exact wrapU' (by simp) (by simp; omega)
  · have h2 : n + 1 = U64 := by unfold eqMax at h; exact beq_iff_eq.1 h
    have e : (n : Int) + 1 = 18446744073709551616 := by unfold U64 at h2; omega
    rw [e]
    show IntKind.u64.wrap 18446744073709551616 = ((0 : Nat) : Int)
    decide
set_option maxRecDepth 100000 in
set_option maxHeartbeats 8000000 in
theorem lists_law (n : Nat) (hn : n < U64) (p : Option Addr) (len cap : Nat) (f : Nat → Int) (w : World) (hNT : NTab w) (hC : CellsIn w p (len * 1) (intC f)) :
    Calls Tryd.prog 8 #[.int .u64 (n : Int), .slice p len cap] w fun e w' => e = .returned (.bool true) ∧ Below w.heap.size w w' := by
  have HC := Lib.hid hC
  clear hC
  have hgd := fun k hk => good_digits hn k hk
  have h20 := digL_20 hn
  obtain ⟨S, hSe⟩ : ∃ S, digL 10 n = S := ⟨_, rfl⟩
  rw [hSe] at hgd h20
  have HS := Lib.hid hSe
  have HG := Lib.hid hgd
  clear hSe hgd
  go_enter Tryd.func8, Tryd.ntmps8
  go_wp2_with fail
  refine (decText_any n hn _ (by first | exact hNT | exact hNT.below hB | exact hNT.below hB.drew | exact hNT.below (by assumption))).mono ?_
  rintro z v0 ⟨rfl, hB⟩
  rw [HS.out]
  go_wp2_with fail
  go_loopw [6, 7] (fun s i wr => ∃ (k : Nat) (o : List UInt8), k ≤ len ∧ k ≤ 10 ∧ i = .int .i64 k ∧ s = .string ⟨o.toArray⟩ ∧ o.length ≤ 30 * k + 20 ∧ Hid (Lst n S o) ∧ Below w.heap.size w wr)
    (fun _ i _ => len - (intOf i).toNat)
  case atStart => exact ⟨0, S, Nat.zero_le _, Nat.zero_le _, rfl, rfl, by omega, Lib.hid (Lst.start (by simpa using HG.out 0 (by omega))), hB⟩
  case round =>
  obtain ⟨k, o, hk, hk6, rfl, rfl, hol, hlst, hB⟩ := hrel
  by_cases hlt : k < len ∧ k < 10
  · have h1 : decide ((k : Int) < (len : Int)) = true := decide_eq_true (by omega)
    have h2 : decide ((k : Int) < 10) = true := decide_eq_true (by omega)
    have hb2 : (k : Int) < (len : Int) := by omega
    obtain ⟨b, off, hp, hbl, hcell0⟩ := HC.out k (by omega)
    subst hp
    have hcell : wr.cell? ⟨b, off + k, none⟩ = some (.int .i64 (f k)) := (hB.cell (p := ⟨b, off + k, none⟩) hbl).trans hcell0
    have hr := modI_range (f k) 27 (by omega)
    obtain ⟨m, hm⟩ := Int.eq_ofNat_of_zero_le hr.1
    rw [hm] at hr
    have HM := Lib.hid hm
    have hm1 : m < 27 := by omega
    have hk7 : k + 1 ≤ 10 := by omega
    obtain ⟨r1, hr1⟩ : ∃ r, m % 3 = r := ⟨_, rfl⟩
    obtain ⟨u, hu⟩ : ∃ u, m / 3 = u := ⟨_, rfl⟩
    obtain ⟨r2, hr2⟩ : ∃ r, u % 3 = r := ⟨_, rfl⟩
    obtain ⟨v, hv⟩ : ∃ v, m / 9 = v := ⟨_, rfl⟩
    obtain ⟨r3, hr3⟩ : ∃ r, v % 3 = r := ⟨_, rfl⟩
    have l1 : r1 < 3 := by omega
    have l2 : r2 < 3 := by omega
    have l3 : r3 < 3 := by omega
    have a1 := bl1_at r1
    have a2 := bl2_at r2
    have a3 := zz_take r3 l3
    have hstep : Hid (Lst n S (o ++ (bl1 r1 ++ 44 :: (bl2 r2 ++ (List.replicate r3 48 ++ S))))) := Lib.hid (hlst.out.step (bl1_is r1) (bl2_is r2) (HG.out r3 (by omega)))
    have c1 : (bl1 r1).length ≤ 2 := by
      match r1 with
      | 0 => simp [bl1]
      | 1 => simp [bl1]
      | _ + 2 => simp [bl1]
    have c2 : (bl2 r2).length ≤ 2 := by
      match r2 with
      | 0 => simp [bl2]
      | 1 => simp [bl2]
      | _ + 2 => simp [bl2]
    have c3 : (List.replicate r3 (48 : UInt8)).length ≤ 2 := by rw [List.length_replicate]; omega
    obtain ⟨B1, hB1⟩ : ∃ B, bl1 r1 = B := ⟨_, rfl⟩
    obtain ⟨B2, hB2⟩ : ∃ B, bl2 r2 = B := ⟨_, rfl⟩
    obtain ⟨Z, hZ⟩ : ∃ B, List.replicate r3 (48 : UInt8) = B := ⟨_, rfl⟩
    rw [hB1] at a1 c1 hstep
    rw [hB2] at a2 c2 hstep
    rw [hZ] at a3 c3 hstep
    have q1 : ((m : Int)).tmod 3 = (r1 : Int) := by rw [Int.tmod_eq_emod_of_nonneg (by omega)]; omega
    have q2 : IntKind.i64.wrap ((m : Int) / 3) = (u : Int) := (IntWalk.i64_in _ (by omega)).trans (by omega)
    have q3 : ((u : Int)).tmod 3 = (r2 : Int) := by rw [Int.tmod_eq_emod_of_nonneg (by omega)]; omega
    have q4 : IntKind.i64.wrap ((m : Int) / 9) = (v : Int) := (IntWalk.i64_in _ (by omega)).trans (by omega)
    have q5 : ((v : Int)).tmod 3 = (r3 : Int) := by rw [Int.tmod_eq_emod_of_nonneg (by omega)]; omega
    have e1 : (r1 : Int) < 3 := by omega
    have e2 : (r2 : Int) < 3 := by omega
    have e3 : (r3 : Int) ≤ 3 := by omega
    have s1 : ∀ w, (Op.stringOp .add ⟨o.toArray⟩ ⟨B1.toArray⟩).run Tryd.prog w = .ok (.string ⟨(o ++ B1).toArray⟩) w := fun w => str_add o B1 (by unfold Small; omega)
    have s2 : ∀ w, (Op.stringOp .add ⟨(o ++ B1).toArray⟩ ⟨#[44]⟩).run Tryd.prog w = .ok (.string ⟨(o ++ (B1 ++ [44])).toArray⟩) w := fun w => (str_add (o ++ B1) [44] (by unfold Small; simp; omega)).trans (by simp)
    have s3 : ∀ w, (Op.stringOp .add ⟨(o ++ (B1 ++ [44])).toArray⟩ ⟨B2.toArray⟩).run Tryd.prog w = .ok (.string ⟨(o ++ (B1 ++ 44 :: B2)).toArray⟩) w := fun w => (str_add (o ++ (B1 ++ [44])) B2 (by unfold Small; simp; omega)).trans (by simp)
    have s4 : ∀ w, (Op.stringOp .add ⟨(o ++ (B1 ++ 44 :: B2)).toArray⟩ ⟨Z.toArray⟩).run Tryd.prog w = .ok (.string ⟨(o ++ (B1 ++ 44 :: (B2 ++ Z))).toArray⟩) w := fun w => (str_add (o ++ (B1 ++ 44 :: B2)) Z (by unfold Small; simp; omega)).trans (by simp)
    have s5 : ∀ w, (Op.stringOp .add ⟨(o ++ (B1 ++ 44 :: (B2 ++ Z))).toArray⟩ ⟨S.toArray⟩).run Tryd.prog w = .ok (.string ⟨(o ++ (B1 ++ 44 :: (B2 ++ (Z ++ S)))).toArray⟩) w := fun w => (str_add (o ++ (B1 ++ 44 :: (B2 ++ Z))) S (by unfold Small; simp; omega)).trans (by simp)
    clear hcell0 hm hr hlt hr1 hu hr2 hv hr3 hB1 hB2 hZ
    go_wp2_with fail
    refine (mod_any (f k) 27 (by omega) (by omega) _).mono ?_
    rintro z w' ⟨rfl, rfl⟩
    rw [HM.out]
    go_upto_region 7 with fail
    go_region
    all_goals
      go_wp2_with fail
      go_roundw
      case rel =>
        refine ⟨k + 1, _, by omega, hk7, by go_num, rfl, ?_, hstep, ((hB.alloc hB.size _).alloc (by have := hB.size; simp; omega) _).drew⟩
        simp only [List.length_append, List.length_cons]
        omega
      case measure => simp [intOf]; omega
  · have hgS := HG.out 0 (by omega)
    have hgS2 : goodE n S := by simpa using hgS
    have hS5 : S.length < 100000 := by omega
    have ho5 : o.length < 100000 := by omega
    have HQ1 : Hid (sameV o 30 n = .tuple #[.int .u64 (n : Int), .int .i64 0]) := Lib.hid (by unfold sameV; rw [same_good hn hlst.out.all]; rfl)
    have HQ3 : Hid (sameV S 30 n = .tuple #[.int .u64 (n : Int), .int .i64 0]) := Lib.hid (by unfold sameV; rw [same_good hn (Lst.start hgS2).all]; rfl)
    obtain ⟨hx, hxn⟩ := oth_lt hn
    have hw := oth_wrap hn
    have hoth : Hid (othN n = if eqMax n then 0 else n + 1) := Lib.hid rfl
    obtain ⟨q, hq⟩ : ∃ q, eqMax n = q := ⟨_, rfl⟩
    rw [hq] at hoth
    have HQ := Lib.hid hq
    clear hq
    obtain ⟨x, hxe⟩ : ∃ x, othN n = x := ⟨_, rfl⟩
    rw [hxe] at hx hxn hw hoth
    have hgX := good_digits hx 0 (by omega)
    have hX20 := digL_20 hx
    obtain ⟨X, hXe⟩ : ∃ X, digL 10 x = X := ⟨_, rfl⟩
    rw [hXe] at hgX hX20
    have HX := Lib.hid hXe
    have hoX : (o ++ 44 :: X).length < 100000 := by simp; omega
    have HQ2 : Hid (sameV (o ++ 44 :: X) 30 18446744073709551615 = .tuple #[.int .u64 0, .int .i64 7]) := Lib.hid (by
      have h := hlst.out.other hn hx hxn (X := X) (by simpa using hgX)
      have e : U64 - 1 = 18446744073709551615 := by decide
      rw [e] at h
      unfold sameV; rw [h]; rfl)
    have s1 : ∀ w, (Op.stringOp .add ⟨o.toArray⟩ ⟨#[44]⟩).run Tryd.prog w = .ok (.string ⟨(o ++ [44]).toArray⟩) w := fun w => str_add o [44] (by unfold Small; simp; omega)
    have s2 : ∀ w, (Op.stringOp .add ⟨(o ++ [44]).toArray⟩ ⟨X.toArray⟩).run Tryd.prog w = .ok (.string ⟨(o ++ 44 :: X).toArray⟩) w := fun w => (str_add (o ++ [44]) X (by unfold Small; simp; omega)).trans (by simp)
    clear hgS hgS2 hxn hgX hXe hxe
    have hko : (k < len ∧ k = 10) ∨ ¬ k < len := by omega
    rcases hko with ⟨hk1, hk2⟩ | hk1
    all_goals
      first | have h1 : decide ((k : Int) < (len : Int)) = true := decide_eq_true (by omega) | have h1 : decide ((k : Int) < (len : Int)) = false := decide_eq_false (by omega)
      first | subst hk2 | skip
      go_wp2_with fail
      refine (same_any o ho5 30 n hn _).mono ?_
      rintro y v1 ⟨rfl, hb⟩
      rw [HQ1.out]
      have hB := hB.trans (hb.mono hB.size)
      clear hb
      go_upto_region 10 with fail
      go_cut [65] (fun p wx => p = .bool q ∧ v1 = wx)
      case first =>
        go_wp2_with fail
        go_meet
        exact ⟨by rw [eq_int, HQ.out], rfl⟩
      case rest =>
      obtain ⟨rfl, rfl⟩ := hcut
      go_upto_if 65 with fail
      go_cut [11] (fun p wx => p = .int .u64 (x : Int) ∧ v1 = wx)
      case first =>
        cases q
        · go_wp2_with fail
          go_meet
          exact ⟨rfl, rfl⟩
        · have hx0 : Hid (x = 0) := Lib.hid (by rw [hoth.out]; rfl)
          go_wp2_with fail
          go_meet
          exact ⟨by rw [hx0.out]; rfl, rfl⟩
      case rest =>
      obtain ⟨rfl, rfl⟩ := hcut
      go_wp2_with fail
      refine (decText_any x hx _ (by first | exact hNT | exact hNT.below hB | exact hNT.below hB.drew | exact hNT.below (by assumption))).mono ?_
      rintro y v21 ⟨rfl, hb⟩
      rw [HX.out]
      have hB := hB.trans (hb.mono hB.size)
      clear hb
      go_wp2_with fail
      refine (same_any (o ++ 44 :: X) hoX 30 18446744073709551615 (by unfold U64; omega) _).mono ?_
      rintro y v22 ⟨rfl, hb⟩
      rw [HQ2.out]
      have hB := hB.trans (hb.mono hB.size)
      clear hb
      go_wp2_with fail
      refine (same_any S hS5 30 n hn _).mono ?_
      rintro y v23 ⟨rfl, hb⟩
      rw [HQ3.out]
      have hB := hB.trans (hb.mono hB.size)
      clear hb
      go_wp2_with fail
      refine (awake_any _ (by first | exact hNT | exact hNT.below hB | exact hNT.below hB.drew | exact hNT.below (by assumption))).mono ?_
      rintro y v24 ⟨rfl, hb⟩
      have hB := hB.trans (hb.mono hB.size)
      clear hb
      go_wp2_with fail
      go_ret
      exact ⟨rfl, hB⟩
end Go.Proofs.YtekbahpobhjobaaDoor
