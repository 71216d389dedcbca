/-
  The reference's Cut and Colon for every text.
-/
import Derived.Test.YtbafmiejgpgamaaGreatDoorCTrim
import Derived.Laws.DeepStrings4
namespace Go.Proofs.YtbafmiejgpgamaaGreatDoor
open Go.RowKit
attribute [local go_sem] ba_get
/-- How many bytes of tokens a text begins with. -/
def pre : List UInt8 → Nat
  | [] => 0
  | c :: r => if tokB c then pre r + 1 else 0
theorem pre_le : ∀ l, pre l ≤ l.length
  | [] => Nat.le_refl _
  | c :: r => by
    unfold pre
    have := pre_le r
    split <;> simp <;> omega
theorem pre_at {l : List UInt8} {k : Nat} (h : k < l.length) : pre (l.drop k) = if tokB l[k] then pre (l.drop (k + 1)) + 1 else 0 := by
  rw [List.drop_eq_getElem_cons h]; rfl
def cutR (l : List UInt8) : List UInt8 × List UInt8 × Nat := if pre l = 0 then ([], [], 6) else (l.take (pre l), l.drop (pre l), 0)
def cutV (l : List UInt8) : Value := .tuple #[.string ⟨(cutR l).1.toArray⟩, .string ⟨(cutR l).2.1.toArray⟩, .int .i64 ((cutR l).2.2 : Nat)]
theorem ba_take (l : List UInt8) (k : Nat) : (ByteArray.mk l.toArray).extract 0 k = ⟨(l.take k).toArray⟩ := by
  apply ByteArray.ext
  rw [ByteArray.data_extract, List.extract_toArray, List.extract_eq_take_drop]
  simp
theorem ba_drop (l : List UInt8) (k : Nat) : (ByteArray.mk l.toArray).extract k l.length = ⟨(l.drop k).toArray⟩ := by
  apply ByteArray.ext
  rw [ByteArray.data_extract, List.extract_toArray, List.extract_eq_take_drop]
  simp
  exact List.take_of_length_le (by simp)
set_option maxHeartbeats 2000000 in
theorem refCut_any (l : List UInt8) (hl : l.length < 200000000000000) (w : World) :
    Calls Tryz.prog 70 #[.string ⟨l.toArray⟩] w fun e w' => e = .returned (cutV l) ∧ Below w.heap.size w w' := by
  obtain ⟨N, hN⟩ : ∃ N, pre l = N := ⟨_, rfl⟩
  have hNl : N ≤ l.length := by rw [← hN]; exact pre_le l
  have HN := Lib.hid hN
  clear hN
  go_enter Tryz.func70, Tryz.ntmps70
  go_upto_block 0 with (fail)
  go_cut [5] (fun n wx => n = .int .i64 N ∧ w = wx)
  case first =>
    go_wp2_with fail
    go_loopw [5] (fun i wr => ∃ k : Nat, k ≤ l.length ∧ i = .int .i64 k ∧ Hid (k + pre (l.drop k) = N) ∧ w = wr) (fun i _ => l.length - (intOf i).toNat)
    case atStart => exact ⟨0, Nat.zero_le _, rfl, Lib.hid (by rw [List.drop_zero, HN.out, Nat.zero_add]), rfl⟩
    case round =>
      obtain ⟨k, hk, rfl, hp, rfl⟩ := hrel
      by_cases hlt : k < l.length
      · have h1 : decide ((k : Int) < (l.length : Int)) = true := decide_eq_true (by omega)
        have hb2 : (k : Int) < (l.length : Int) := by omega
        have hat := pre_at hlt
        have hlt2 : (l[k]).toNat < 256 := UInt8.toNat_lt _
        obtain ⟨v, hv⟩ : ∃ v, tokB l[k] = v := ⟨_, rfl⟩
        have hbw : tokN (l[k]).toNat = v := hv
        have HB := Lib.hid hbw
        rw [hv] at hat
        clear hv hbw
        cases v
        · have hres : Hid (N = k) := Lib.hid (by rw [← hp.out, hat]; rfl)
          clear hat
          go_wp2_with fail
          refine (refOf_any _ hlt2 _).mono ?_
          rintro e w' ⟨rfl, rfl⟩
          rw [HB.out]
          go_wp2_with fail
          go_meet
          exact ⟨by rw [hres.out], rfl⟩
        · have hnext : Hid (k + 1 + pre (l.drop (k + 1)) = N) := Lib.hid (by have := hp.out; rw [hat, if_pos rfl] at this; omega)
          clear hat
          go_wp2_with fail
          refine (refOf_any _ hlt2 _).mono ?_
          rintro e w' ⟨rfl, rfl⟩
          rw [HB.out]
          go_wp2_with fail
          go_roundw
          case rel => exact ⟨k + 1, by omega, by go_num, hnext, by simp⟩
          case measure => simp [intOf]; omega
      · have h1 : decide ((k : Int) < (l.length : Int)) = false := decide_eq_false (by omega)
        obtain rfl : k = l.length := by omega
        have hres : Hid (N = l.length) := Lib.hid (by rw [← hp.out, List.drop_length]; rfl)
        go_wp2_with fail
        go_meet
        exact ⟨by rw [hres.out], rfl⟩
  case rest =>
  obtain ⟨rfl, rfl⟩ := hcut
  by_cases h0 : N = 0
  · have HV : Hid (cutV l = .tuple #[.string ⟨#[]⟩, .string ⟨#[]⟩, .int .i64 6]) := Lib.hid (by unfold cutV cutR; rw [HN.out, if_pos h0]; rfl)
    have h1 : ((N : Int) == 0) = true := by rw [beq_iff_eq]; omega
    clear h0
    go_wp2_with fail
    go_ret3
    exact ⟨by rw [HV.out]; rfl, Below.refl _ _⟩
  · have HV : Hid (cutV l = .tuple #[.string ⟨(l.take N).toArray⟩, .string ⟨(l.drop N).toArray⟩, .int .i64 0]) := Lib.hid (by unfold cutV cutR; rw [HN.out, if_neg h0]; rfl)
    have h1 : ((N : Int) == 0) = false := by rw [beq_eq_false_iff_ne]; omega
    have g1 := ba_take l N
    have g2 := ba_drop l N
    have hb3 : (N : Int) ≤ (l.length : Int) := by omega
    clear h0
    go_wp2_with fail
    go_region
    all_goals
      go_wp2_with fail
      go_ret3
      exact ⟨by rw [HV.out]; rfl, (Below.refl _ _).drew⟩
/-- What is before and behind the colon. -/
def colT (A : List UInt8) : List UInt8 → List UInt8 × List UInt8 × Nat
  | [] => ([], [], 3)
  | c :: r => if c.toNat = 58 ∧ valV (trimL r) = true then (A, trimL r, 0) else ([], [], 3)
def colR (l : List UInt8) : List UInt8 × List UInt8 × Nat := if pre l = 0 then ([], [], 3) else colT (l.take (pre l)) (l.drop (pre l))
def colV (l : List UInt8) : Value := .tuple #[.string ⟨(colR l).1.toArray⟩, .string ⟨(colR l).2.1.toArray⟩, .int .i64 ((colR l).2.2 : Nat)]
set_option maxHeartbeats 2000000 in
theorem refColon_any (l : List UInt8) (hl : l.length < 200000000000000) (w : World) :
    Calls Tryz.prog 61 #[.string ⟨l.toArray⟩] w fun e w' => e = .returned (colV l) ∧ Below w.heap.size w w' := by
  have h := fun W => refCut_any l hl W
  by_cases h0 : pre l = 0
  · have HC : Hid (cutV l = .tuple #[.string ⟨#[]⟩, .string ⟨#[]⟩, .int .i64 6]) := Lib.hid (by unfold cutV cutR; rw [if_pos h0]; rfl)
    have HV : Hid (colV l = .tuple #[.string ⟨#[]⟩, .string ⟨#[]⟩, .int .i64 3]) := Lib.hid (by unfold colV colR; rw [if_pos h0]; rfl)
    have H := Lib.hid h
    clear h h0
    go_enter Tryz.func61, Tryz.ntmps61
    go_wp2_with fail
    refine (H.out _).mono ?_
    rintro e w1 ⟨rfl, hB⟩
    rw [HC.out]
    go_wp2_with fail
    go_ret3
    exact ⟨by rw [HV.out]; rfl, hB⟩
  · have hrl : (l.drop (pre l)).length < 200000000000000 := by rw [List.length_drop]; omega
    obtain ⟨A, hA⟩ : ∃ A, l.take (pre l) = A := ⟨_, rfl⟩
    obtain ⟨r, hr⟩ : ∃ r, l.drop (pre l) = r := ⟨_, rfl⟩
    have HC : Hid (cutV l = .tuple #[.string ⟨A.toArray⟩, .string ⟨r.toArray⟩, .int .i64 0]) := Lib.hid (by unfold cutV cutR; rw [if_neg h0, hA, hr]; rfl)
    have hcol : colR l = colT A r := by unfold colR; rw [if_neg h0, hA, hr]
    have HV : Hid (colV l = .tuple #[.string ⟨(colT A r).1.toArray⟩, .string ⟨(colT A r).2.1.toArray⟩, .int .i64 ((colT A r).2.2 : Nat)]) := Lib.hid (by unfold colV; rw [hcol])
    rw [hr] at hrl
    have H := Lib.hid h
    clear h h0 hA hr hcol
    cases r with
    | nil =>
      go_enter Tryz.func61, Tryz.ntmps61
      go_wp2_with fail
      refine (H.out _).mono ?_
      rintro e w1 ⟨rfl, hB⟩
      rw [HC.out]
      go_wp2_with fail
      go_ret3
      exact ⟨by rw [HV.out]; rfl, hB⟩
    | cons c r =>
      have hrl2 : r.length < 200000000000000 := by simp at hrl; omega
      have g1 := ba_tail c r
      have hct : colT A (c :: r) = if c.toNat = 58 ∧ valV (trimL r) = true then (A, trimL r, 0) else ([], [], 3) := rfl
      have htl := trim_length r
      obtain ⟨y, hy⟩ : ∃ y, c.toNat = y := ⟨_, rfl⟩
      obtain ⟨T, hT⟩ : ∃ T, trimL r = T := ⟨_, rfl⟩
      obtain ⟨b, hb⟩ : ∃ b, valV T = b := ⟨_, rfl⟩
      rw [hT] at hct htl
      rw [hy, hb] at hct
      have HT := Lib.hid hT
      have HBV := Lib.hid hb
      have HCT := Lib.hid hct
      clear hT hb hct
      by_cases h58 : y = 58
      · have a1 : ((y : Int) == 58) = true := by rw [beq_iff_eq]; omega
        have a2 : ((y : Int) != 58) = false := by rw [bne_eq_false_iff_eq]; omega
        cases b
        · have HV2 : Hid (colV l = .tuple #[.string ⟨#[]⟩, .string ⟨#[]⟩, .int .i64 3]) := Lib.hid (by rw [HV.out, HCT.out, if_neg (by simp)]; rfl)
          clear h58
          go_enter Tryz.func61, Tryz.ntmps61
          go_wp2_with fail
          refine (H.out _).mono ?_
          rintro e w1 ⟨rfl, hB⟩
          rw [HC.out]
          go_wp2_with fail
          refine (refTrim_any r hrl2 _).mono ?_
          rintro e w2 ⟨rfl, rfl⟩
          rw [HT.out]
          go_wp2_with fail
          refine (refValue_any T (by omega) _).mono ?_
          rintro e w2 ⟨rfl, rfl⟩
          rw [HBV.out]
          go_wp2_with fail
          go_ret3
          exact ⟨by rw [HV2.out]; rfl, hB⟩
        · have HV2 : Hid (colV l = .tuple #[.string ⟨A.toArray⟩, .string ⟨T.toArray⟩, .int .i64 0]) := Lib.hid (by rw [HV.out, HCT.out, if_pos ⟨h58, rfl⟩]; rfl)
          clear h58
          go_enter Tryz.func61, Tryz.ntmps61
          go_wp2_with fail
          refine (H.out _).mono ?_
          rintro e w1 ⟨rfl, hB⟩
          rw [HC.out]
          go_wp2_with fail
          refine (refTrim_any r hrl2 _).mono ?_
          rintro e w2 ⟨rfl, rfl⟩
          rw [HT.out]
          go_wp2_with fail
          refine (refValue_any T (by omega) _).mono ?_
          rintro e w2 ⟨rfl, rfl⟩
          rw [HBV.out]
          go_wp2_with fail
          refine (refTrim_any r hrl2 _).mono ?_
          rintro e w2 ⟨rfl, rfl⟩
          rw [HT.out]
          go_wp2_with fail
          go_ret3
          exact ⟨by rw [HV2.out]; rfl, hB⟩
      · have a1 : ((y : Int) == 58) = false := by rw [beq_eq_false_iff_ne]; omega
        have a2 : ((y : Int) != 58) = true := by rw [bne_iff_ne]; omega
        have HV2 : Hid (colV l = .tuple #[.string ⟨#[]⟩, .string ⟨#[]⟩, .int .i64 3]) := Lib.hid (by rw [HV.out, HCT.out, if_neg (fun h => h58 h.1)]; rfl)
        clear h58
        go_enter Tryz.func61, Tryz.ntmps61
        go_wp2_with fail
        refine (H.out _).mono ?_
        rintro e w1 ⟨rfl, hB⟩
        rw [HC.out]
        go_wp2_with fail
        go_ret3
        exact ⟨by rw [HV2.out]; rfl, hB⟩
end Go.Proofs.YtbafmiejgpgamaaGreatDoor
