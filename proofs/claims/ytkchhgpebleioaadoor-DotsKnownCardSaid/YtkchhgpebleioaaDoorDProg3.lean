/-
  The program's fits and Make, for lists shorter than 49000 of texts shorter than 49000 bytes.
-/
import Derived.Test.YtkchhgpebleioaaDoorDProg2
namespace Go.Proofs.YtkchhgpebleioaaDoor
open Go.RowKit
theorem flat_take (L : List (List UInt8)) (k : Nat) : (flatL (L.take k)).length ≤ (flatL L).length := by
  have h := flat_append (L.take k) (L.drop k)
  rw [List.take_append_drop] at h
  rw [h, List.length_append]
  omega
theorem put_fit (L : List (List UInt8)) (o : Bool) : decide ((putL L o).length ≤ 128) = decide ((flatL L).length + (if o then 1 else 0) ≤ 128) := by
  unfold putL
  rw [decide_eq_decide, List.length_append]
  cases o with
  | true => simp
  | false =>
    cases L with
    | nil => simp [flatL]
    | cons x r => simp
set_option maxRecDepth 100000 in
set_option maxHeartbeats 4000000 in
theorem fits_any (L : List (List UInt8)) (o : Bool) (hn : L.length < 49000) (hL : ∀ x ∈ L, x.length < 49000) (v : Value) (w : World) (hv : StrsAt w v L) :
    Calls Tryd.prog 46 #[v, .bool o] w fun e w' => e = .returned (.bool (decide ((putL L o).length ≤ 128))) ∧ w = w' := by
  rw [put_fit]
  obtain ⟨oo, hoo⟩ : ∃ oo : Nat, (if o then 1 else 0) = oo := ⟨_, rfl⟩
  rw [hoo]
  have ho1 : oo ≤ 1 := by rw [← hoo]; split <;> omega
  obtain ⟨R, hR⟩ : ∃ R, decide ((flatL L).length + oo ≤ 128) = R := ⟨_, rfl⟩
  rw [hR]
  have HR := Lib.hid hR
  obtain ⟨p, c, rfl, hC⟩ := hv
  have HC := Lib.hid hC
  have HL := Lib.hid hL
  have HO := Lib.hid hoo
  clear hC hL hR hoo
  cases o with
  | true =>
    obtain rfl : 1 = oo := HO.out
    go_enter Tryd.func46, Tryd.ntmps46
    go_wp2_with fail
    go_loopw [5, 13] (fun left i wr => ∃ (k m : Nat), k ≤ L.length ∧ i = .int .i64 k ∧ left = .int .i64 m ∧ Hid (m + (flatL (L.take k)).length = 127) ∧ wr = w) (fun _ i _ => L.length - (intOf i).toNat)
    case atStart => exact ⟨0, 127, Nat.zero_le _, rfl, rfl, Lib.hid rfl, rfl⟩
    case round =>
    obtain ⟨k, m, hk, rfl, rfl, hst, rfl⟩ := hrel
    by_cases hlt : k < L.length
    · have h1 : decide ((k : Int) < (L.length : Int)) = true := decide_eq_true (by omega)
      have hb2 : (k : Int) < (L.length : Int) := by omega
      obtain ⟨b, off, rfl, hbl, hcell⟩ := str_cell HC.out (Below.refl _ _) hlt
      have hxl := HL.out _ (List.getElem_mem hlt)
      have hat : (flatL (L.take (k + 1))).length = (flatL (L.take k)).length + (L[k].length + 1) := by
        rw [List.take_succ_eq_append_getElem hlt, flat_append]
        simp [flatL]
      have hle := flat_take L (k + 1)
      obtain ⟨x, hx⟩ : ∃ x, L[k] = x := ⟨_, rfl⟩
      rw [hx] at hat hxl hcell
      have q1 : IntKind.i64.wrap ((x.length : Int) + 1) = ((x.length + 1 : Nat) : Int) := by rw [IntKind.wrap_i64]; omega
      obtain ⟨y, hy⟩ : ∃ y, x.length + 1 = y := ⟨_, rfl⟩
      rw [hy] at q1
      have hst2 := hst.out
      have HAT : Hid ((flatL (L.take (k + 1))).length = (flatL (L.take k)).length + y) := Lib.hid (by rw [hat, hy])
      by_cases hgt : m < y
      · have d1 : decide ((m : Int) < (y : Int)) = true := decide_eq_true (by omega)
        have d1n : decide (m < y) = true := decide_eq_true hgt
        have HF : Hid (R = false) := Lib.hid (by rw [← HR.out]; exact decide_eq_false (by have := HAT.out; omega))
        have q2 : (x.length : Int) + 1 = (y : Int) := by omega
        clear hat hle hx hy hst2 hgt hst
        go_wp2_with fail
        go_ret
        exact ⟨by rw [HF.out]; rfl, rfl⟩
      · have d1 : decide ((m : Int) < (y : Int)) = false := decide_eq_false (by omega)
        have d1n : decide (m < y) = false := decide_eq_false hgt
        obtain ⟨m2, hm2⟩ : ∃ m2, m - y = m2 := ⟨_, rfl⟩
        have q3 : IntKind.i64.wrap ((m : Int) - (y : Int)) = (m2 : Int) := by rw [IntKind.wrap_i64]; omega
        have hnext : Hid (m2 + (flatL (L.take (k + 1))).length = 127) := Lib.hid (by have := HAT.out; omega)
        have q2 : (x.length : Int) + 1 = (y : Int) := by omega
        clear hat hle hx hy hst2 hgt hst hm2
        go_wp2_with fail
        go_roundw
        case rel => exact ⟨k + 1, m2, by omega, by go_num, rfl, hnext, trivial⟩
        case measure => simp [intOf]; omega
    · have h1 : decide ((k : Int) < (L.length : Int)) = false := decide_eq_false (by omega)
      have HF : Hid (R = true) := Lib.hid (by rw [← HR.out]; exact decide_eq_true (by have := hst.out; rw [List.take_of_length_le (by omega)] at this; omega))
      clear hst
      go_wp2_with fail
      go_ret
      exact ⟨by rw [HF.out]; rfl, rfl⟩
  | false =>
    obtain rfl : 0 = oo := HO.out
    go_enter Tryd.func46, Tryd.ntmps46
    go_wp2_with fail
    go_loopw [5, 13] (fun left i wr => ∃ (k m : Nat), k ≤ L.length ∧ i = .int .i64 k ∧ left = .int .i64 m ∧ Hid (m + (flatL (L.take k)).length = 128) ∧ wr = w) (fun _ i _ => L.length - (intOf i).toNat)
    case atStart => exact ⟨0, 128, Nat.zero_le _, rfl, rfl, Lib.hid rfl, rfl⟩
    case round =>
    obtain ⟨k, m, hk, rfl, rfl, hst, rfl⟩ := hrel
    by_cases hlt : k < L.length
    · have h1 : decide ((k : Int) < (L.length : Int)) = true := decide_eq_true (by omega)
      have hb2 : (k : Int) < (L.length : Int) := by omega
      obtain ⟨b, off, rfl, hbl, hcell⟩ := str_cell HC.out (Below.refl _ _) hlt
      have hxl := HL.out _ (List.getElem_mem hlt)
      have hat : (flatL (L.take (k + 1))).length = (flatL (L.take k)).length + (L[k].length + 1) := by
        rw [List.take_succ_eq_append_getElem hlt, flat_append]
        simp [flatL]
      have hle := flat_take L (k + 1)
      obtain ⟨x, hx⟩ : ∃ x, L[k] = x := ⟨_, rfl⟩
      rw [hx] at hat hxl hcell
      have q1 : IntKind.i64.wrap ((x.length : Int) + 1) = ((x.length + 1 : Nat) : Int) := by rw [IntKind.wrap_i64]; omega
      obtain ⟨y, hy⟩ : ∃ y, x.length + 1 = y := ⟨_, rfl⟩
      rw [hy] at q1
      have hst2 := hst.out
      have HAT : Hid ((flatL (L.take (k + 1))).length = (flatL (L.take k)).length + y) := Lib.hid (by rw [hat, hy])
      by_cases hgt : m < y
      · have d1 : decide ((m : Int) < (y : Int)) = true := decide_eq_true (by omega)
        have d1n : decide (m < y) = true := decide_eq_true hgt
        have HF : Hid (R = false) := Lib.hid (by rw [← HR.out]; exact decide_eq_false (by have := HAT.out; omega))
        have q2 : (x.length : Int) + 1 = (y : Int) := by omega
        clear hat hle hx hy hst2 hgt hst
        go_wp2_with fail
        go_ret
        exact ⟨by rw [HF.out]; rfl, rfl⟩
      · have d1 : decide ((m : Int) < (y : Int)) = false := decide_eq_false (by omega)
        have d1n : decide (m < y) = false := decide_eq_false hgt
        obtain ⟨m2, hm2⟩ : ∃ m2, m - y = m2 := ⟨_, rfl⟩
        have q3 : IntKind.i64.wrap ((m : Int) - (y : Int)) = (m2 : Int) := by rw [IntKind.wrap_i64]; omega
        have hnext : Hid (m2 + (flatL (L.take (k + 1))).length = 128) := Lib.hid (by have := HAT.out; omega)
        have q2 : (x.length : Int) + 1 = (y : Int) := by omega
        clear hat hle hx hy hst2 hgt hst hm2
        go_wp2_with fail
        go_roundw
        case rel => exact ⟨k + 1, m2, by omega, by go_num, rfl, hnext, trivial⟩
        case measure => simp [intOf]; omega
    · have h1 : decide ((k : Int) < (L.length : Int)) = false := decide_eq_false (by omega)
      have HF : Hid (R = true) := Lib.hid (by rw [← HR.out]; exact decide_eq_true (by have := hst.out; rw [List.take_of_length_le (by omega)] at this; omega))
      clear hst
      go_wp2_with fail
      go_ret
      exact ⟨by rw [HF.out]; rfl, rfl⟩
set_option maxRecDepth 100000 in
set_option maxHeartbeats 4000000 in
theorem make_any (L : List (List UInt8)) (o : Bool) (hn : L.length < 49000) (hL : ∀ x ∈ L, x.length < 49000) (v : Value) (w : World) (hv : StrsAt w v L) :
    Calls Tryd.prog 21 #[v, .bool o] w fun e w' => e = .returned (strR (makeR L o)) ∧ Below w.heap.size w w' := by
  have HBUILD := Lib.hid (build_any L o (by omega) (fun x hx => by have := hL x hx; omega) v w hv)
  have HFITS := Lib.hid (fits_any L o hn hL v w hv)
  obtain ⟨T, hT⟩ : ∃ T, putL L o = T := ⟨_, rfl⟩
  rw [hT] at HBUILD HFITS
  have hR : makeR L o = if L.all nameB then (if 128 < T.length then .inl 4 else .inr T) else .inl 3 := by unfold makeR; rw [hT]
  obtain ⟨p, c, rfl, hC⟩ := id hv
  have HC := Lib.hid hC
  have HR := Lib.hid hR
  have H0 : Hid ((L.drop 0).all nameB = L.all nameB) := Lib.hid rfl
  clear hC hL hv hR hT
  go_enter Tryd.func21, Tryd.ntmps21
  go_wp2_with fail
  go_loopw [10] (fun i wr => ∃ k : Nat, k ≤ L.length ∧ i = .int .i64 k ∧ Hid ((L.drop k).all nameB = L.all nameB) ∧ wr = w) (fun i _ => L.length - (intOf i).toNat)
  case atStart => exact ⟨0, Nat.zero_le _, rfl, H0, rfl⟩
  case round =>
    obtain ⟨k, hk, rfl, hst, rfl⟩ := hrel
    by_cases hlt : k < L.length
    · have h1 : decide ((k : Int) < (L.length : Int)) = true := decide_eq_true (by omega)
      have hb2 : (k : Int) < (L.length : Int) := by omega
      obtain ⟨b, off, rfl, hbl, hcell⟩ := str_cell HC.out (Below.refl _ _) hlt
      have hat : (L.drop k).all nameB = (nameB L[k] && (L.drop (k + 1)).all nameB) := by rw [List.drop_eq_getElem_cons hlt, List.all_cons]
      obtain ⟨x, hx⟩ : ∃ x, L[k] = x := ⟨_, rfl⟩
      rw [hx] at hat hcell
      rw [hst.out] at hat
      obtain ⟨q, hq⟩ : ∃ q, nameB x = q := ⟨_, rfl⟩
      have HQ := Lib.hid hq
      rw [hq] at hat
      have HAT := Lib.hid hat
      clear hx hq hat
      cases q
      · have hbad : Hid (makeR L o = .inl 3) := Lib.hid (by rw [HR.out, HAT.out]; rfl)
        go_wp2_with fail
        refine (isName_any x _).mono ?_
        rintro e w' ⟨rfl, rfl⟩
        rw [HQ.out]
        go_wp2_with fail
        go_ret2
        exact ⟨by rw [hbad.out]; rfl, Below.refl _ _⟩
      · have hnext : Hid ((L.drop (k + 1)).all nameB = L.all nameB) := Lib.hid (by rw [HAT.out]; rfl)
        go_wp2_with fail
        refine (isName_any x _).mono ?_
        rintro e w' ⟨rfl, rfl⟩
        rw [HQ.out]
        go_wp2_with fail
        go_roundw
        case rel => exact ⟨k + 1, by omega, by go_num, hnext, trivial⟩
        case measure => simp [intOf]; omega
    · have h1 : decide ((k : Int) < (L.length : Int)) = false := decide_eq_false (by omega)
      have hall : L.all nameB = true := by rw [← hst.out, List.drop_eq_nil_of_le (by omega)]; rfl
      have HR2 : Hid (makeR L o = if 128 < T.length then .inl 4 else .inr T) := Lib.hid (by rw [HR.out, if_pos hall])
      clear hall
      obtain ⟨f, hf⟩ : ∃ f, decide (T.length ≤ 128) = f := ⟨_, rfl⟩
      rw [hf] at HFITS
      cases f with
      | false =>
        have HR3 : Hid (makeR L o = .inl 4) := Lib.hid (by rw [HR2.out, if_pos (by have := of_decide_eq_false hf; omega)])
        clear hf
        go_wp2_with fail
        refine HFITS.out.mono ?_
        rintro e w' ⟨rfl, rfl⟩
        go_wp2_with fail
        go_ret2
        exact ⟨by rw [HR3.out]; rfl, Below.refl _ _⟩
      | true =>
        have HR3 : Hid (makeR L o = .inr T) := Lib.hid (by rw [HR2.out, if_neg (by have := of_decide_eq_true hf; omega)])
        clear hf
        go_wp2_with fail
        refine HFITS.out.mono ?_
        rintro e w' ⟨rfl, rfl⟩
        go_wp2_with fail
        refine HBUILD.out.mono ?_
        rintro e w' ⟨rfl, hb⟩
        go_wp2_with fail
        go_ret2
        exact ⟨by rw [HR3.out]; rfl, hb⟩
end Go.Proofs.YtkchhgpebleioaaDoor
