/-
  The reference's Encode, Check, Literal and cut, for texts shorter than 100000 bytes.
-/
import Derived.Test.YtbbphchhdppipaaDoorURef1
import Derived.Test.YtbbphchhdppipaaDoorUDec
import Derived.Laws.DeepStrings4
import Derived.Laws.Entries
namespace Go.Proofs.YtbbphchhdppipaaDoor
open Go.RowKit
theorem ba_append (a b : List UInt8) : ByteArray.mk a.toArray ++ ByteArray.mk b.toArray = ⟨(a ++ b).toArray⟩ := by
  apply ByteArray.ext
  rw [ByteArray.data_append]
  simp
/-- A length that a string may have. -/
def Small (n : Nat) : Prop := n ≤ 9223372036854775807
theorem str_add {P : Program} {w : World} (a b : List UInt8) (h : Small (a.length + b.length)) : (Op.stringOp .add ⟨a.toArray⟩ ⟨b.toArray⟩).run P w = .ok (.string ⟨(a ++ b).toArray⟩) w := by
  rw [← ba_append]
  exact run_string_add_sum _ _ _ h
theorem str_add_to {P : Program} {a b c : List UInt8} (h : a ++ b = c) (hs : a.length + b.length < 10000000) (w : World) : (Op.stringOp .add ⟨a.toArray⟩ ⟨b.toArray⟩).run P w = .ok (.string ⟨c.toArray⟩) w := by
  rw [← h]
  exact str_add a b (by unfold Small; omega)
theorem ba_fst (T : List UInt8) (k : Nat) : (ByteArray.mk T.toArray).extract 0 k = ⟨(T.take k).toArray⟩ := by
  apply ByteArray.ext
  rw [ByteArray.data_extract, List.extract_toArray, List.extract_eq_take_drop]
  simp
theorem ba_snd (T : List UInt8) (k : Nat) : (ByteArray.mk T.toArray).extract k T.length = ⟨(T.drop k).toArray⟩ := by
  apply ByteArray.ext
  rw [ByteArray.data_extract, List.extract_toArray, List.extract_eq_take_drop]
  rw [List.take_of_length_le (by rw [List.length_drop]; omega)]
theorem ba_one (T : List UInt8) (k : Nat) (h : k < T.length) : (ByteArray.mk T.toArray).extract k (k + 1) = ⟨#[T[k]]⟩ := by
  apply ByteArray.ext
  rw [ByteArray.data_extract, List.extract_toArray, List.extract_eq_take_drop]
  rw [show k + 1 - k = 1 by omega, List.drop_eq_getElem_cons h]
  rfl
theorem hexU_cut : ∀ i, i < 16 → (ByteArray.mk #[48, 49, 50, 51, 52, 53, 54, 55, 56, 57, 65, 66, 67, 68, 69, 70]).extract i (i + 1) = ⟨#[hexU i]⟩ := by decide +kernel
theorem stay_37 : stayS.has 37 = false := by decide +kernel
theorem code1_yes {z : UInt8} (h : stayS.has z.toNat = true) : enc1 stayS z = [z] := by
  unfold enc1
  rw [h]
  have : (z != 37) = true := by
    rw [bne_iff_ne]
    rintro rfl
    rw [show ((37 : UInt8).toNat) = 37 from rfl, stay_37] at h
    cases h
  rw [this]
  rfl
theorem code1_no {z : UInt8} (h : stayS.has z.toNat = false) : enc1 stayS z = [37, hexU (z.toNat / 16), hexU (z.toNat % 16)] := by
  unfold enc1
  rw [h, Bool.and_false]
  rfl
section
attribute [local go_sem] ba_get
set_option maxRecDepth 100000 in
set_option maxHeartbeats 4000000 in
theorem refCode_any (l : List UInt8) (hl : l.length < 100000) (w : World) :
    Calls Tryd.prog 14 #[.string ⟨l.toArray⟩] w fun e w' => e = .returned (.string ⟨(codeL l).toArray⟩) ∧ Below w.heap.size w w' := by
  obtain ⟨R, hR⟩ : ∃ R, codeL l = R := ⟨_, rfl⟩
  have HR := Lib.hid hR
  rw [hR]
  clear hR
  go_enter Tryd.func14, Tryd.ntmps14
  go_wp2_with fail
  go_loopw [3, 4] (fun out i wr => ∃ (k : Nat) (o : List UInt8), k ≤ l.length ∧ i = .int .i64 k ∧ out = .string ⟨o.toArray⟩ ∧ Hid (o = encL stayS (l.take k)) ∧ o.length ≤ 3 * k ∧ Below w.heap.size w wr)
    (fun _ i _ => l.length - (intOf i).toNat)
  case atStart => exact ⟨0, [], Nat.zero_le _, rfl, rfl, Lib.hid (by rw [List.take_zero]; rfl), by simp, Below.refl _ _⟩
  case round =>
  obtain ⟨k, o, hk, rfl, rfl, ho, hol, hB⟩ := hrel
  by_cases hlt : k < l.length
  · have d1 : decide ((k : Int) < (l.length : Int)) = true := decide_eq_true (by omega)
    have hb2 : (k : Int) < (l.length : Int) := by omega
    have hone := ba_one l k hlt
    obtain ⟨z, hz⟩ : ∃ z, l[k] = z := ⟨_, rfl⟩
    have hstep := encL_take (s := stayS) hlt
    rw [hz] at hstep hone
    obtain ⟨y, hy⟩ : ∃ y, z.toNat = y := ⟨_, rfl⟩
    have hy256 : y < 256 := by rw [← hy]; exact UInt8.toNat_lt _
    have hyk : (l[k]).toNat = y := by rw [hz, hy]
    obtain ⟨q, hq⟩ : ∃ q, stayS.has y = q := ⟨_, rfl⟩
    have HQ := Lib.hid hq
    cases q with
    | true =>
      have he := code1_yes (z := z) (by rw [hy]; exact hq)
      obtain ⟨o2, ho2⟩ : ∃ o2, o ++ [z] = o2 := ⟨_, rfl⟩
      have s1 : ∀ w, (Op.stringOp .add ⟨o.toArray⟩ ⟨#[z]⟩).run Tryd.prog w = .ok (.string ⟨o2.toArray⟩) w := str_add_to (b := [z]) ho2 (by simp; omega)
      have hnext : Hid (o2 = encL stayS (l.take (k + 1))) := Lib.hid (by rw [hstep, he, ← ho2, ho.out])
      have ho2l : o2.length ≤ 3 * (k + 1) := by rw [← ho2]; simp; omega
      have q1 : IntKind.i64.wrap ((k : Int) + 1) = ((k + 1 : Nat) : Int) := by rw [IntKind.wrap_i64]; omega
      have hb3 : (k : Int) ≤ ((k + 1 : Nat) : Int) := by omega
      have hb4 : ((k + 1 : Nat) : Int) ≤ (l.length : Int) := by omega
      clear hq he ho2 hstep hz
      go_wp2_with fail
      refine (refStays_any y hy256 _).mono ?_
      rintro e w' ⟨rfl, rfl⟩
      rw [HQ.out]
      go_wp2_with fail
      go_roundw
      case rel => exact ⟨k + 1, o2, by omega, by go_num, rfl, hnext, ho2l, hB⟩
      case measure => simp [intOf]; omega
    | false =>
      have he := code1_no (z := z) (by rw [hy]; exact hq)
      rw [hy] at he
      have q1 : IntKind.u8.wrap ((y : Int) / 16 + 1) = ((y / 16 + 1 : Nat) : Int) := by rw [IntKind.wrap_u8']; omega
      have q2 : IntKind.u8.wrap ((y : Int) % 16 + 1) = ((y % 16 + 1 : Nat) : Int) := by rw [IntKind.wrap_u8']; omega
      have q3 : IntKind.u8.wrap ((y : Int) / 16) = ((y / 16 : Nat) : Int) := by rw [IntKind.wrap_u8']; omega
      have q4 : ((y : Int)).tmod 16 = ((y % 16 : Nat) : Int) := by rw [Int.tmod_eq_emod_of_nonneg (by omega)]; omega
      have i1 : 0 ≤ (y : Int) / 16 ∧ (y : Int) / 16 < 16 := ⟨by omega, by omega⟩
      have i2 : 0 ≤ (y : Int) % 16 ∧ (y : Int) % 16 < 16 := ⟨by omega, by omega⟩
      have x1 := hexU_cut (y / 16) (by omega)
      have x2 := hexU_cut (y % 16) (by omega)
      obtain ⟨h1, hh1⟩ : ∃ h, hexU (y / 16) = h := ⟨_, rfl⟩
      obtain ⟨h2, hh2⟩ : ∃ h, hexU (y % 16) = h := ⟨_, rfl⟩
      rw [hh1] at x1 he
      rw [hh2] at x2 he
      obtain ⟨o1, ho1⟩ : ∃ o1, o ++ [37] = o1 := ⟨_, rfl⟩
      obtain ⟨o2, ho2⟩ : ∃ o2, o1 ++ [h1] = o2 := ⟨_, rfl⟩
      obtain ⟨o3, ho3⟩ : ∃ o3, o2 ++ [h2] = o3 := ⟨_, rfl⟩
      have l1 : o1.length = o.length + 1 := by rw [← ho1]; simp
      have l2 : o2.length = o.length + 2 := by rw [← ho2]; simp [l1]
      have l3 : o3.length ≤ 3 * (k + 1) := by rw [← ho3]; simp [l2]; omega
      have s1 : ∀ w, (Op.stringOp .add ⟨o.toArray⟩ ⟨#[37]⟩).run Tryd.prog w = .ok (.string ⟨o1.toArray⟩) w := str_add_to (b := [37]) ho1 (by simp; omega)
      have s2 : ∀ w, (Op.stringOp .add ⟨o1.toArray⟩ ⟨#[h1]⟩).run Tryd.prog w = .ok (.string ⟨o2.toArray⟩) w := str_add_to (b := [h1]) ho2 (by simp; omega)
      have s3 : ∀ w, (Op.stringOp .add ⟨o2.toArray⟩ ⟨#[h2]⟩).run Tryd.prog w = .ok (.string ⟨o3.toArray⟩) w := str_add_to (b := [h2]) ho3 (by simp; omega)
      have hnext : Hid (o3 = encL stayS (l.take (k + 1))) := Lib.hid (by rw [hstep, he, ← ho3, ← ho2, ← ho1, ho.out]; simp)
      clear hq he ho1 ho2 ho3 hstep hz l1 l2 hh1 hh2
      go_wp2_with fail
      refine (refStays_any y hy256 _).mono ?_
      rintro e w' ⟨rfl, rfl⟩
      rw [HQ.out]
      go_wp2_with fail
      go_region
      all_goals
        go_wp2_with fail
        go_roundw
        case rel => exact ⟨k + 1, o3, by omega, by go_num, rfl, hnext, l3, hB.drew⟩
        case measure => simp [intOf]; omega
  · have d1 : decide ((k : Int) < (l.length : Int)) = false := decide_eq_false (by omega)
    have hres : Hid (o = R) := Lib.hid (by rw [ho.out, List.take_of_length_le (by omega)]; exact HR.out)
    go_wp2_with fail
    go_ret
    rw [hres.out]
    exact ⟨rfl, hB⟩
end
end Go.Proofs.YtbbphchhdppipaaDoor
