/-
  The law BytesetKnown returns true. The table of math/bits must lie in its variable.
-/
import Derived.Test.YtbpnhiejmkeclaaDoorAwake
import Derived.Test.YtbpnhiejmkeclaaDoorAll
namespace Go.Proofs.YtbpnhiejmkeclaaDoor
open Go.RowKit
attribute [local go_sem] eq_sets w_0 w_1 w_2 w_3
theorem union_none (w : World) :
    Calls Tryd.prog 27 #[.slice none 0 0] w fun e w' => e = .returned WSet.empty.v ∧ Below w.heap.size w w' := by
  go_enter Tryd.func27, Tryd.ntmps27
  go_wp2
  refine wp_loop_rounds 1 ?_
  rw [rounds_succ]
  go_wp2
  refine bodyPost_ret (v := WSet.empty.v) ?_ rfl ⟨rfl, ?_⟩
  · simp [results, Tryd.results27, go_sem, WSet.empty]
  · go_grown
theorem common_none (w : World) :
    Calls Tryd.prog 29 #[.slice none 0 0] w fun e w' => e = .returned WSet.empty.not.v ∧ Below w.heap.size w w' := by
  go_enter Tryd.func29, Tryd.ntmps29
  go_wp2_with fail
  refine (not_any 0 0 0 0 _).mono ?_
  rintro e w1 ⟨rfl, hB1⟩
  have b0 : Blk w1 w.heap.size .empty := (Blk.new0 w).below hB1 (by simp)
  have hz : w.heap.size < w1.heap.size := b0.lt
  have hB2 : Below w.heap.size w w1 := ((Below.refl _ w).alloc (Nat.le_refl _) _).trans (hB1.mono (by simp))
  obtain ⟨d0, d1, d2, d3⟩ := b0.cells
  obtain ⟨f0, f1, f2, f3⟩ := b0.frees
  clear hB1
  go_wp2
  refine wp_loop_rounds 1 ?_
  rw [rounds_succ]
  go_wp2
  have b1 := (b0.store WSet.empty.not).alloc (.cells #[.int .u64 WSet.empty.not.a.toNat, .int .u64 WSet.empty.not.b.toNat, .int .u64 WSet.empty.not.c.toNat, .int .u64 WSet.empty.not.d.toNat] 24)
  exact bodyPost_ret (b1.results rfl _ rfl) rfl ⟨rfl, (Blk.belowStore WSet.empty.not hB2 (Nat.le_refl _)).alloc (by simp; omega) _⟩
theorem of1_at (a : Nat) (ha : a < 256) (W : World) (B : Nat) (hB : W.heap.size = B) :
    Calls Tryd.prog 25 #[.slice (some ⟨B, 0, none⟩) 1 1] (W.alloc (.cells #[.int .u8 a] 5)) fun e w' => e = .returned (setOf [a]).v ∧ Below W.heap.size W w' := by
  subst hB
  have hk : (W.alloc (.cells #[.int .u8 a] 5)).heap[W.heap.size]? = _ := heap_alloc_new W _
  refine (of_any W.heap.size 0 1 1 (fun _ => a) (fun _ _ => ha) (by unfold maxLen; decide) _ (by simp) ?_).mono ?_
  · intro j hj
    rw [cell_of_row _ _ _ _ _ _ hk]
    match j, hj with
    | 0, _ => rfl
  · rintro e w' ⟨rfl, hb⟩
    exact ⟨rfl, ((Below.refl _ W).alloc (Nat.le_refl _) _).trans (hb.mono (by simp))⟩
theorem of2_at (a b : Nat) (ha : a < 256) (hb : b < 256) (W : World) (B : Nat) (hB : W.heap.size = B) :
    Calls Tryd.prog 25 #[.slice (some ⟨B, 0, none⟩) 2 2] (W.alloc (.cells #[.int .u8 a, .int .u8 b] 5)) fun e w' => e = .returned (setOf [a, b]).v ∧ Below W.heap.size W w' := by
  subst hB
  have hk : (W.alloc (.cells #[.int .u8 a, .int .u8 b] 5)).heap[W.heap.size]? = _ := heap_alloc_new W _
  refine (of_any W.heap.size 0 2 2 (pairN a b) ?_ (by unfold maxLen; decide) _ (by simp) ?_).mono ?_
  · intro j hj
    match j, hj with
    | 0, _ => exact ha
    | 1, _ => exact hb
  · intro j hj
    rw [cell_of_row _ _ _ _ _ _ hk]
    match j, hj with
    | 0, _ => rfl
    | 1, _ => rfl
  · rintro e w' ⟨rfl, hb⟩
    exact ⟨rfl, ((Below.refl _ W).alloc (Nat.le_refl _) _).trans (hb.mono (by simp))⟩
theorem q1 : setOf (bytesN ⟨#[97, 0, 255]⟩) = ⟨1#64, 8589934592#64, 0#64, 9223372036854775808#64⟩ := by decide +kernel
theorem q2 : upto ⟨1#64, 8589934592#64, 0#64, 9223372036854775808#64⟩ 0 256 = [0, 97, 255] := by decide +kernel
theorem q3 : setOf (bytesN ⟨#[97, 98]⟩) = ⟨0#64, 25769803776#64, 0#64, 0#64⟩ := by decide +kernel
theorem q4 : (⟨((textOf ⟨0#64, 25769803776#64, 0#64, 0#64⟩).map UInt8.ofNat).toArray⟩ : ByteArray) = ⟨#[97, 98]⟩ := by rw [show textOf ⟨0#64, 25769803776#64, 0#64, 0#64⟩ = [97, 98] by decide +kernel]; rfl
theorem q5 : setOf (bytesN ⟨#[97, 98, 99]⟩) = ⟨0#64, 60129542144#64, 0#64, 0#64⟩ := by decide +kernel
theorem q6 : (⟨((textOf ⟨0#64, 60129542144#64, 0#64, 0#64⟩).map UInt8.ofNat).toArray⟩ : ByteArray) = ⟨#[97, 45, 99]⟩ := by rw [show textOf ⟨0#64, 60129542144#64, 0#64, 0#64⟩ = [97, 45, 99] by decide +kernel]; rfl
theorem q7 : setOf (bytesN ⟨#[45]⟩) = ⟨35184372088832#64, 0#64, 0#64, 0#64⟩ := by decide +kernel
theorem q8 : (⟨((textOf ⟨35184372088832#64, 0#64, 0#64, 0#64⟩).map UInt8.ofNat).toArray⟩ : ByteArray) = ⟨#[92, 120, 50, 100]⟩ := by rw [show textOf ⟨35184372088832#64, 0#64, 0#64, 0#64⟩ = [92, 120, 50, 100] by decide +kernel]; rfl
theorem q9 : setOf (bytesN ⟨#[128, 32]⟩) = ⟨4294967296#64, 0#64, 1#64, 0#64⟩ := by decide +kernel
theorem q10 : (⟨((textOf ⟨4294967296#64, 0#64, 1#64, 0#64⟩).map UInt8.ofNat).toArray⟩ : ByteArray) = ⟨#[92, 120, 50, 48, 92, 120, 56, 48]⟩ := by rw [show textOf ⟨4294967296#64, 0#64, 1#64, 0#64⟩ = [92, 120, 50, 48, 92, 120, 56, 48] by decide +kernel]; rfl
theorem q11 : setOf [0] = ⟨1#64, 0#64, 0#64, 0#64⟩ := by decide +kernel
theorem q12 : (WSet.mk 1#64 0#64 0#64 0#64).not = ⟨18446744073709551614#64, 18446744073709551615#64, 18446744073709551615#64, 18446744073709551615#64⟩ := by decide +kernel
theorem q13 : (⟨((textOf ⟨18446744073709551614#64, 18446744073709551615#64, 18446744073709551615#64, 18446744073709551615#64⟩).map UInt8.ofNat).toArray⟩ : ByteArray) = ⟨#[92, 120, 48, 49, 45, 92, 120, 102, 102]⟩ := by rw [show textOf ⟨18446744073709551614#64, 18446744073709551615#64, 18446744073709551615#64, 18446744073709551615#64⟩ = [92, 120, 48, 49, 45, 92, 120, 102, 102] by decide +kernel]; rfl
theorem q14 : parseOf [99, 45, 97] = .error 8 := by kernel_rfl
theorem q15 : parseOf [97, 45] = .error 3 := by kernel_rfl
theorem q16 : parseOf [92, 120, 52] = .error 3 := by kernel_rfl
theorem q17 : setOf (bytesN ⟨#[65]⟩) = ⟨0#64, 2#64, 0#64, 0#64⟩ := by decide +kernel
theorem q18 : parseOf [92, 120, 52, 49] = .ok ⟨0#64, 2#64, 0#64, 0#64⟩ := by kernel_rfl
theorem q19 : parseOf [45] = .error 3 := by kernel_rfl
theorem q20 : setOf [5, 9] = ⟨544#64, 0#64, 0#64, 0#64⟩ := by decide +kernel
theorem q21 : setOf [5] = ⟨32#64, 0#64, 0#64, 0#64⟩ := by decide +kernel
theorem q22 : nextOf ⟨544#64, 0#64, 0#64, 0#64⟩ (Int.toNat 6) = (9, 0) := by decide +kernel
theorem q23 : nextOf ⟨544#64, 0#64, 0#64, 0#64⟩ (Int.toNat 10) = (0, 6) := by decide +kernel
theorem q24 : nextOf ⟨32#64, 0#64, 0#64, 0#64⟩ (Int.toNat (-9)) = (5, 0) := by decide +kernel
theorem q25 : WSet.empty.not = ⟨18446744073709551615#64, 18446744073709551615#64, 18446744073709551615#64, 18446744073709551615#64⟩ := by decide +kernel
theorem q26 : countOf ⟨18446744073709551615#64, 18446744073709551615#64, 18446744073709551615#64, 18446744073709551615#64⟩ = 256 := by decide +kernel
theorem q27 : setOf (bytesN ⟨#[97]⟩) = ⟨0#64, 8589934592#64, 0#64, 0#64⟩ := by decide +kernel
theorem q28 : allB ⟨0#64, 8589934592#64, 0#64, 0#64⟩ (bytesN ⟨#[97, 97]⟩) = true := by decide +kernel
theorem q29 : setOf (bytesN ⟨#[97]⟩) = ⟨0#64, 8589934592#64, 0#64, 0#64⟩ := by decide +kernel
theorem q30 : allB ⟨0#64, 8589934592#64, 0#64, 0#64⟩ (bytesN ⟨#[97, 98]⟩) = false := by decide +kernel
set_option maxRecDepth 100000 in
set_option maxHeartbeats 8000000 in
theorem known_any (w : World) (hT : Tab w) (h0w : 0 < w.heap.size) :
    Calls Tryd.prog 6 #[] w fun e w' => e = .returned (.bool true) ∧ Below w.heap.size w w' := by
  have hB0 := Below.refl w.heap.size w
  have hT0 := hT
  have h00 := h0w
  go_enter Tryd.func6, Tryd.ntmps6
  go_wp2_with fail
  refine (of_str ⟨#[97, 0, 255]⟩ (by unfold maxLen; decide) _).mono ?_
  rintro e w1 ⟨rfl, hb1⟩
  rw [q1]
  have hz1 := hb1.size
  have hB1 : Below w.heap.size w w1 := hB0.trans (hb1.mono (by omega))
  have hT1 : Tab w1 := hT.below hB1 h0w
  have h01 : 0 < w1.heap.size := by omega
  clear hb1 hB0 hT0 h00
  go_wp2_with fail
  refine (list_any 1#64 8589934592#64 0#64 9223372036854775808#64 _ hT1 h01).mono ?_
  rintro e w2 ⟨v, rfl, hown, -, hb2⟩
  have hz2 := hb2.size
  have hB2 : Below w.heap.size w w2 := hB1.trans (hb2.mono (by omega))
  have hT2 : Tab w2 := hT.below hB2 h0w
  have h02 : 0 < w2.heap.size := by omega
  clear hb2 hB1 hT1 h01
  rw [q2] at hown
  have hcv := owned_string (L := [0, 97, 255]) hown
  clear hown
  go_wp2_with fail
  refine (of_str ⟨#[97, 98]⟩ (by unfold maxLen; decide) _).mono ?_
  rintro e w3 ⟨rfl, hb3⟩
  rw [q3]
  have hz3 := hb3.size
  have hB3 : Below w.heap.size w w3 := hB2.trans (hb3.mono (by omega))
  have hT3 : Tab w3 := hT.below hB3 h0w
  have h03 : 0 < w3.heap.size := by omega
  clear hb3 hB2 hT2 h02
  go_wp2_with fail
  refine (text_any 0#64 25769803776#64 0#64 0#64 _ hT3 h03).mono ?_
  rintro e w4 ⟨rfl, hb4⟩
  rw [q4]
  have hz4 := hb4.size
  have hB4 : Below w.heap.size w w4 := hB3.trans (hb4.mono (by omega))
  have hT4 : Tab w4 := hT.below hB4 h0w
  have h04 : 0 < w4.heap.size := by omega
  clear hb4 hB3 hT3 h03
  go_wp2_with fail
  refine (of_str ⟨#[97, 98, 99]⟩ (by unfold maxLen; decide) _).mono ?_
  rintro e w5 ⟨rfl, hb5⟩
  rw [q5]
  have hz5 := hb5.size
  have hB5 : Below w.heap.size w w5 := hB4.trans (hb5.mono (by omega))
  have hT5 : Tab w5 := hT.below hB5 h0w
  have h05 : 0 < w5.heap.size := by omega
  clear hb5 hB4 hT4 h04
  go_wp2_with fail
  refine (text_any 0#64 60129542144#64 0#64 0#64 _ hT5 h05).mono ?_
  rintro e w6 ⟨rfl, hb6⟩
  rw [q6]
  have hz6 := hb6.size
  have hB6 : Below w.heap.size w w6 := hB5.trans (hb6.mono (by omega))
  have hT6 : Tab w6 := hT.below hB6 h0w
  have h06 : 0 < w6.heap.size := by omega
  clear hb6 hB5 hT5 h05
  go_wp2_with fail
  refine (of_str ⟨#[45]⟩ (by unfold maxLen; decide) _).mono ?_
  rintro e w7 ⟨rfl, hb7⟩
  rw [q7]
  have hz7 := hb7.size
  have hB7 : Below w.heap.size w w7 := hB6.trans (hb7.mono (by omega))
  have hT7 : Tab w7 := hT.below hB7 h0w
  have h07 : 0 < w7.heap.size := by omega
  clear hb7 hB6 hT6 h06
  go_wp2_with fail
  refine (text_any 35184372088832#64 0#64 0#64 0#64 _ hT7 h07).mono ?_
  rintro e w8 ⟨rfl, hb8⟩
  rw [q8]
  have hz8 := hb8.size
  have hB8 : Below w.heap.size w w8 := hB7.trans (hb8.mono (by omega))
  have hT8 : Tab w8 := hT.below hB8 h0w
  have h08 : 0 < w8.heap.size := by omega
  clear hb8 hB7 hT7 h07
  go_wp2_with fail
  refine (of_str ⟨#[128, 32]⟩ (by unfold maxLen; decide) _).mono ?_
  rintro e w9 ⟨rfl, hb9⟩
  rw [q9]
  have hz9 := hb9.size
  have hB9 : Below w.heap.size w w9 := hB8.trans (hb9.mono (by omega))
  have hT9 : Tab w9 := hT.below hB9 h0w
  have h09 : 0 < w9.heap.size := by omega
  clear hb9 hB8 hT8 h08
  go_wp2_with fail
  refine (text_any 4294967296#64 0#64 1#64 0#64 _ hT9 h09).mono ?_
  rintro e w10 ⟨rfl, hb10⟩
  rw [q10]
  have hz10 := hb10.size
  have hB10 : Below w.heap.size w w10 := hB9.trans (hb10.mono (by omega))
  have hT10 : Tab w10 := hT.below hB10 h0w
  have h010 : 0 < w10.heap.size := by omega
  clear hb10 hB9 hT9 h09
  go_wp2_with fail
  refine (of1_at 0 (by omega) w10 _ rfl).mono ?_
  rintro e w11 ⟨rfl, hb11⟩
  rw [q11]
  have hz11 := hb11.size
  have hB11 : Below w.heap.size w w11 := hB10.trans (hb11.mono (by omega))
  have hT11 : Tab w11 := hT.below hB11 h0w
  have h011 : 0 < w11.heap.size := by omega
  clear hb11 hB10 hT10 h010
  go_wp2_with fail
  refine (not_any 1#64 0#64 0#64 0#64 _).mono ?_
  rintro e w12 ⟨rfl, hb12⟩
  rw [q12]
  have hz12 := hb12.size
  have hB12 : Below w.heap.size w w12 := hB11.trans (hb12.mono (by omega))
  have hT12 : Tab w12 := hT.below hB12 h0w
  have h012 : 0 < w12.heap.size := by omega
  clear hb12 hB11 hT11 h011
  go_wp2_with fail
  refine (text_any 18446744073709551614#64 18446744073709551615#64 18446744073709551615#64 18446744073709551615#64 _ hT12 h012).mono ?_
  rintro e w13 ⟨rfl, hb13⟩
  rw [q13]
  have hz13 := hb13.size
  have hB13 : Below w.heap.size w w13 := hB12.trans (hb13.mono (by omega))
  have hT13 : Tab w13 := hT.below hB13 h0w
  have h013 : 0 < w13.heap.size := by omega
  clear hb13 hB12 hT12 h012
  go_wp2_with fail
  refine (fails_any [99, 45, 97] (by simp) 8 q14 _).mono ?_
  rintro e w14 ⟨rfl, hb14⟩
  have hz14 := hb14.size
  have hB14 : Below w.heap.size w w14 := hB13.trans (hb14.mono (by omega))
  have hT14 : Tab w14 := hT.below hB14 h0w
  have h014 : 0 < w14.heap.size := by omega
  clear hb14 hB13 hT13 h013
  go_wp2_with fail
  refine (fails_any [97, 45] (by simp) 3 q15 _).mono ?_
  rintro e w15 ⟨rfl, hb15⟩
  have hz15 := hb15.size
  have hB15 : Below w.heap.size w w15 := hB14.trans (hb15.mono (by omega))
  have hT15 : Tab w15 := hT.below hB15 h0w
  have h015 : 0 < w15.heap.size := by omega
  clear hb15 hB14 hT14 h014
  go_wp2_with fail
  refine (fails_any [92, 120, 52] (by simp) 3 q16 _).mono ?_
  rintro e w16 ⟨rfl, hb16⟩
  have hz16 := hb16.size
  have hB16 : Below w.heap.size w w16 := hB15.trans (hb16.mono (by omega))
  have hT16 : Tab w16 := hT.below hB16 h0w
  have h016 : 0 < w16.heap.size := by omega
  clear hb16 hB15 hT15 h015
  go_wp2_with fail
  refine (of_str ⟨#[65]⟩ (by unfold maxLen; decide) _).mono ?_
  rintro e w17 ⟨rfl, hb17⟩
  rw [q17]
  have hz17 := hb17.size
  have hB17 : Below w.heap.size w w17 := hB16.trans (hb17.mono (by omega))
  have hT17 : Tab w17 := hT.below hB17 h0w
  have h017 : 0 < w17.heap.size := by omega
  clear hb17 hB16 hT16 h016
  go_wp2_with fail
  refine (parses_ok [92, 120, 52, 49] (by simp) 0#64 2#64 0#64 0#64 q18 _).mono ?_
  rintro e w18 ⟨rfl, hb18⟩
  have hz18 := hb18.size
  have hB18 : Below w.heap.size w w18 := hB17.trans (hb18.mono (by omega))
  have hT18 : Tab w18 := hT.below hB18 h0w
  have h018 : 0 < w18.heap.size := by omega
  clear hb18 hB17 hT17 h017
  go_wp2_with fail
  refine (fails_any [45] (by simp) 3 q19 _).mono ?_
  rintro e w19 ⟨rfl, hb19⟩
  have hz19 := hb19.size
  have hB19 : Below w.heap.size w w19 := hB18.trans (hb19.mono (by omega))
  have hT19 : Tab w19 := hT.below hB19 h0w
  have h019 : 0 < w19.heap.size := by omega
  clear hb19 hB18 hT18 h018
  go_wp2_with fail
  refine (of2_at 5 9 (by omega) (by omega) w19 _ rfl).mono ?_
  rintro e w20 ⟨rfl, hb20⟩
  rw [q20]
  have hz20 := hb20.size
  have hB20 : Below w.heap.size w w20 := hB19.trans (hb20.mono (by omega))
  have hT20 : Tab w20 := hT.below hB20 h0w
  have h020 : 0 < w20.heap.size := by omega
  clear hb20 hB19 hT19 h019
  go_wp2_with fail
  refine (next_any 544#64 0#64 0#64 0#64 6 (by omega) _ hT20 h020).mono ?_
  rintro e w21 ⟨rfl, hb21⟩
  rw [q22]
  have hz21 := hb21.size
  have hB21 : Below w.heap.size w w21 := hB20.trans (hb21.mono (by omega))
  have hT21 : Tab w21 := hT.below hB21 h0w
  have h021 : 0 < w21.heap.size := by omega
  clear hb21 hB20 hT20 h020
  go_wp2_with fail
  refine (of2_at 5 9 (by omega) (by omega) w21 _ rfl).mono ?_
  rintro e w22 ⟨rfl, hb22⟩
  rw [q20]
  have hz22 := hb22.size
  have hB22 : Below w.heap.size w w22 := hB21.trans (hb22.mono (by omega))
  have hT22 : Tab w22 := hT.below hB22 h0w
  have h022 : 0 < w22.heap.size := by omega
  clear hb22 hB21 hT21 h021
  go_wp2_with fail
  refine (next_any 544#64 0#64 0#64 0#64 10 (by omega) _ hT22 h022).mono ?_
  rintro e w23 ⟨rfl, hb23⟩
  rw [q23]
  have hz23 := hb23.size
  have hB23 : Below w.heap.size w w23 := hB22.trans (hb23.mono (by omega))
  have hT23 : Tab w23 := hT.below hB23 h0w
  have h023 : 0 < w23.heap.size := by omega
  clear hb23 hB22 hT22 h022
  go_wp2_with fail
  refine (of1_at 5 (by omega) w23 _ rfl).mono ?_
  rintro e w24 ⟨rfl, hb24⟩
  rw [q21]
  have hz24 := hb24.size
  have hB24 : Below w.heap.size w w24 := hB23.trans (hb24.mono (by omega))
  have hT24 : Tab w24 := hT.below hB24 h0w
  have h024 : 0 < w24.heap.size := by omega
  clear hb24 hB23 hT23 h023
  go_wp2_with fail
  refine (next_any 32#64 0#64 0#64 0#64 (-9) (by omega) _ hT24 h024).mono ?_
  rintro e w25 ⟨rfl, hb25⟩
  rw [q24]
  have hz25 := hb25.size
  have hB25 : Below w.heap.size w w25 := hB24.trans (hb25.mono (by omega))
  have hT25 : Tab w25 := hT.below hB25 h0w
  have h025 : 0 < w25.heap.size := by omega
  clear hb25 hB24 hT24 h024
  go_wp2_with fail
  refine (awake_any _ hT25 h025).mono ?_
  rintro e w26 ⟨rfl, hb26⟩
  have hz26 := hb26.size
  have hB26 : Below w.heap.size w w26 := hB25.trans (hb26.mono (by omega))
  have hT26 : Tab w26 := hT.below hB26 h0w
  have h026 : 0 < w26.heap.size := by omega
  clear hb26 hB25 hT25 h025
  go_wp2_with fail
  refine (union_none _).mono ?_
  rintro e w27 ⟨rfl, hb27⟩
  rw [show WSet.empty = ⟨0#64, 0#64, 0#64, 0#64⟩ from rfl]
  have hz27 := hb27.size
  have hB27 : Below w.heap.size w w27 := hB26.trans (hb27.mono (by omega))
  have hT27 : Tab w27 := hT.below hB27 h0w
  have h027 : 0 < w27.heap.size := by omega
  clear hb27 hB26 hT26 h026
  go_wp2_with fail
  refine (common_none _).mono ?_
  rintro e w28 ⟨rfl, hb28⟩
  rw [q25]
  have hz28 := hb28.size
  have hB28 : Below w.heap.size w w28 := hB27.trans (hb28.mono (by omega))
  have hT28 : Tab w28 := hT.below hB28 h0w
  have h028 : 0 < w28.heap.size := by omega
  clear hb28 hB27 hT27 h027
  go_wp2_with fail
  refine (count_any 18446744073709551615#64 18446744073709551615#64 18446744073709551615#64 18446744073709551615#64 _).mono ?_
  rintro e w29 ⟨rfl, hb29⟩
  rw [q26]
  have hz29 := hb29.size
  have hB29 : Below w.heap.size w w29 := hB28.trans (hb29.mono (by omega))
  have hT29 : Tab w29 := hT.below hB29 h0w
  have h029 : 0 < w29.heap.size := by omega
  clear hb29 hB28 hT28 h028
  go_wp2_with fail
  refine (of_str ⟨#[97]⟩ (by unfold maxLen; decide) _).mono ?_
  rintro e w30 ⟨rfl, hb30⟩
  rw [q27]
  have hz30 := hb30.size
  have hB30 : Below w.heap.size w w30 := hB29.trans (hb30.mono (by omega))
  have hT30 : Tab w30 := hT.below hB30 h0w
  have h030 : 0 < w30.heap.size := by omega
  clear hb30 hB29 hT29 h029
  go_wp2_with fail
  refine (all_any 0#64 8589934592#64 0#64 0#64 ⟨#[97, 97]⟩ (by unfold maxLen; decide) _).mono ?_
  rintro e w31 ⟨rfl, hb31⟩
  rw [q28]
  have hz31 := hb31.size
  have hB31 : Below w.heap.size w w31 := hB30.trans (hb31.mono (by omega))
  have hT31 : Tab w31 := hT.below hB31 h0w
  have h031 : 0 < w31.heap.size := by omega
  clear hb31 hB30 hT30 h030
  go_wp2_with fail
  refine (of_str ⟨#[97]⟩ (by unfold maxLen; decide) _).mono ?_
  rintro e w32 ⟨rfl, hb32⟩
  rw [q29]
  have hz32 := hb32.size
  have hB32 : Below w.heap.size w w32 := hB31.trans (hb32.mono (by omega))
  have hT32 : Tab w32 := hT.below hB32 h0w
  have h032 : 0 < w32.heap.size := by omega
  clear hb32 hB31 hT31 h031
  go_wp2_with fail
  refine (all_any 0#64 8589934592#64 0#64 0#64 ⟨#[97, 98]⟩ (by unfold maxLen; decide) _).mono ?_
  rintro e w33 ⟨rfl, hb33⟩
  rw [q30]
  have hz33 := hb33.size
  have hB33 : Below w.heap.size w w33 := hB32.trans (hb33.mono (by omega))
  have hT33 : Tab w33 := hT.below hB33 h0w
  have h033 : 0 < w33.heap.size := by omega
  clear hb33 hB32 hT32 h032
  go_wp2_with fail
  go_ret
  exact ⟨rfl, hB33⟩
end Go.Proofs.YtbpnhiejmkeclaaDoor
