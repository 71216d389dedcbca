/-
  The law LineBack returns true for every input.
-/
import Derived.Test.YtfagjhadfonhdaaLMade
namespace Go.Proofs.Ytfagjhadfonhdaa
open Go.RowKit
def LU : List UInt8 := [117, 110, 102, 105, 110, 105, 115, 104, 101, 100]
theorem lu_cut {a : Nat} : (ByteArray.mk #[117, 110, 102, 105, 110, 105, 115, 104, 101, 100]).extract 0 a = ⟨(LU.take a).toArray⟩ := lba_take LU a
theorem lu_ok {a : Nat} (h : a < 11) : hasN (LU.take a) 10 = false ∧ (LU.take a).length ≤ 10 := by
  revert a
  decide
theorem joinL_len : ∀ (L : List Ln), (∀ x ∈ L, x.tx.length < 14) → (joinL L).length ≤ L.length * 16
  | [], _ => Nat.le_refl _
  | x :: r, h => by
    have h1 := h x (List.mem_cons_self ..)
    have ih := joinL_len r (fun y hy => h y (List.mem_cons_of_mem _ hy))
    simp only [joinL, List.length_append, List.length_cons, List.length_nil]
    omega
theorem max_nat (a b : Nat) : (if (a : Int) < (b : Int) then (b : Int) else (a : Int)) = ((max a b : Nat) : Int) := by
  split <;> omega
set_option maxRecDepth 100000 in
set_option maxHeartbeats 8000000 in
theorem back7_law (I : List Int) (p : Option Addr) (c : Nat) (rest : Int) (w : World) (hC : CellsIn w p (I.length * 1) (intC fun j => I.getD j 0)) :
    Calls Try.prog 7 #[.slice p I.length c, .int .i64 rest] w fun e w' => e = .returned (.bool true) ∧ Below w.heap.size w w' := by
  have HM := Lib.hid (made7_any I p c w hC)
  obtain ⟨L, hL⟩ : ∃ L, madeL I = L := ⟨_, rfl⟩
  have hok := made_ok (I := I)
  have hlen := made_len I
  rw [hL] at hok hlen
  have HL := Lib.hid hL
  obtain ⟨J, hJ⟩ : ∃ J, joinL L = J := ⟨_, rfl⟩
  have hjl := joinL_len L (fun x hx => (hok x hx).2)
  rw [hJ] at hjl
  have HJ : Hid (joinW (goJ [] L) = .tuple #[.string ⟨J.toArray⟩, .int .i64 0]) := Lib.hid (by rw [goJ_all L [] (fun x hx => (hok x hx).1), hJ]; rfl)
  have HJ2 := Lib.hid hJ
  have HLS : Hid (LnsS L) := Lib.hid (fun x hx => by have := (hok x hx).2; omega)
  have HOK := Lib.hid hok
  have hr := modI_range rest 11 (by decide)
  obtain ⟨a, ha⟩ : ∃ a : Nat, modI rest 11 = (a : Int) := ⟨(modI rest 11).toNat, by omega⟩
  rw [ha] at hr
  obtain ⟨t, ht⟩ : ∃ t, LU.take a = t := ⟨_, rfl⟩
  have htk := lu_ok (a := a) (by omega)
  rw [ht] at htk
  have hex : (ByteArray.mk #[117, 110, 102, 105, 110, 105, 115, 104, 101, 100]).extract 0 a = ⟨t.toArray⟩ := by rw [lu_cut, ht]
  have ha3 : (a : Int) ≤ 10 := by omega
  have HA := Lib.hid ha
  have HT := Lib.hid htk.1
  have htl := htk.2
  clear hL hok hJ ha ht htk hC
  go_enter Try.func7, Try.ntmps7
  go_wp2_with fail
  refine (HM.out).mono ?_
  rintro e w1 ⟨v, rfl, hv, hB⟩
  rw [HL.out] at hv
  obtain ⟨pv, cv, rfl, -⟩ := id hv
  have HV := Lib.hid hv
  have hX := Below.refl w1.heap.size w1
  clear hv
  go_wp2_with fail
  refine (ljoin_any L (by omega) HLS.out _ _ HV.out).mono ?_
  rintro e w2 ⟨rfl, hb⟩
  rw [HJ.out]
  have hB := hB.trans (hb.mono hB.size)
  have hX := hX.trans (hb.mono hX.size)
  clear hb
  go_wp2_with fail
  refine (mod_any rest 11 (by decide) (by decide) _).mono ?_
  rintro e w' ⟨rfl, rfl⟩
  rw [HA.out]
  obtain ⟨N0, hN0, hn1, hn2, hn3⟩ : ∃ N : Nat, (if 1 < (t.length : Int) then (t.length : Int) else 1) = (N : Int) ∧ 1 ≤ N ∧ t.length ≤ N ∧ N ≤ 100 := by
    by_cases h : 1 < (t.length : Int)
    · exact ⟨t.length, by rw [if_pos h], by omega, Nat.le_refl _, by omega⟩
    · exact ⟨1, by rw [if_neg h]; rfl, Nat.le_refl _, by omega, by omega⟩
  have hN0m : max 1 (t.length : Int) = (N0 : Int) := by
    rw [← hN0]
    split <;> omega
  have HB := Lib.hid hB
  have HX := Lib.hid hX
  clear hB hX
  go_upto_region 5 with fail
  clear hN0 hN0m
  go_wp2_with fail
  go_loopw [9, 10] (fun m i wr => ∃ (k N : Nat), k ≤ L.length ∧ i = .int .i64 k ∧ m = .int .i64 (N : Int) ∧ 1 ≤ N ∧ t.length ≤ N ∧ N ≤ 100 ∧ Hid (∀ x ∈ L.take k, x.tx.length + 1 ≤ N) ∧ wr = w2) (fun _ i _ => L.length - (intOf i).toNat)
  case atStart => exact ⟨0, N0, Nat.zero_le _, rfl, rfl, hn1, hn2, hn3, Lib.hid (by simp), rfl⟩
  case round =>
    obtain ⟨k, N, hk, rfl, rfl, hN1, hN2, hN3, hall, rfl⟩ := hrel
    clear hn1 hn2 hn3
    by_cases hlt : k < L.length
    · have h1 : decide ((k : Int) < (L.length : Int)) = true := decide_eq_true (by omega)
      have hb2 : (k : Int) < (L.length : Int) := by omega
      obtain ⟨pv', cv', e0, -, hin⟩ := HV.out
      injection e0 with e1 e2 e3
      subst e1
      obtain ⟨b, off, rfl, hbl, x0, x1⟩ := ln_cell hin HX.out hlt
      have hsm := (HOK.out _ (List.getElem_mem hlt)).2
      obtain ⟨n, hn⟩ : ∃ n, (L[k]).tx.length = n := ⟨_, rfl⟩
      rw [hn] at hsm
      have hw : IntKind.i64.wrap ((n : Int) + 1) = (n : Int) + 1 := lwrap64 (by omega) (by omega)
      obtain ⟨N2, hN4, hN5, hN6, hN7⟩ : ∃ M : Nat, (if (N : Int) < (n : Int) + 1 then (n : Int) + 1 else (N : Int)) = (M : Int) ∧ N ≤ M ∧ n + 1 ≤ M ∧ M ≤ 100 := by
        by_cases h : (N : Int) < (n : Int) + 1
        · exact ⟨n + 1, by rw [if_pos h]; omega, by omega, Nat.le_refl _, by omega⟩
        · exact ⟨N, by rw [if_neg h], Nat.le_refl _, by omega, by omega⟩
      have hN4m : max (N : Int) ((n : Int) + 1) = (N2 : Int) := by
        rw [← hN4]
        split <;> omega
      have hnext : Hid (∀ x ∈ L.take (k + 1), x.tx.length + 1 ≤ N2) := Lib.hid (fun x hx => by
        rw [List.take_add_one, List.getElem?_eq_getElem hlt] at hx
        rcases List.mem_append.1 hx with hx | hx
        · have := hall.out x hx
          omega
        · rw [Option.toList_some, List.mem_singleton] at hx
          rw [hx, hn]
          exact hN6)
      clear hall hin
      go_wp2_with fail
      go_roundw
      case rel => exact ⟨k + 1, N2, by omega, by go_num, rfl, by omega, by omega, hN7, hnext, trivial⟩
      case measure => simp [intOf]; omega
    · have h1 : decide ((k : Int) < (L.length : Int)) = false := decide_eq_false (by omega)
      have hS : splR (J ++ t) (N : Int) = ((L, t), 0) := by
        unfold splR
        rw [if_neg (by omega), ← HJ2.out, feed_joined (N : Int) t HT.out (by omega) L (fun x hx => ⟨(HOK.out x hx).1, by
          have := hall.out x (by rw [List.take_of_length_le (by omega)]; exact hx)
          omega⟩)]
        rfl
      have HS := Lib.hid hS
      have s1 : ∀ w, (Op.stringOp .add ⟨J.toArray⟩ ⟨t.toArray⟩).run Try.prog w = .ok (.string ⟨(J ++ t).toArray⟩) w := fun w => lstr_add J t (by omega)
      have hjt : (J ++ t).length < 100000 := by rw [List.length_append]; omega
      obtain ⟨JT, hJT⟩ : ∃ x, J ++ t = x := ⟨_, rfl⟩
      rw [hJT] at s1 HS hjt
      clear hall hS hJT
      go_wp2_with fail
      refine (lsplit_any JT (N : Int) hjt _).mono ?_
      rintro e w3 ⟨⟨v2, rfl, hv2⟩, hb⟩
      rw [HS.out] at hv2 ⊢
      dsimp only at hv2 ⊢
      obtain ⟨p2, c2, rfl, -⟩ := id hv2
      have hB := HB.out.trans (hb.mono HB.out.size)
      have hX := HX.out.trans (hb.mono HX.out.size)
      have HV2 := Lib.hid hv2
      clear hb hv2
      go_wp2_with fail
      refine (sameLines_any L (by omega) _ _ _ HV2.out (HV.out.below hX (Nat.le_refl _))).mono ?_
      rintro e w4 ⟨rfl, hb⟩
      have hB := hB.trans (hb.mono hB.size)
      clear hb
      go_wp2_with fail
      refine (lawake_any _).mono ?_
      rintro e w9 ⟨rfl, hb⟩
      have hB := hB.trans (hb.mono hB.size)
      clear hb
      go_wp2_with fail
      go_ret
      exact ⟨rfl, hB⟩
end Go.Proofs.Ytfagjhadfonhdaa
