/-
  The law text's lines, decodes, encodes and awake.
-/
import Derived.Test.YtbafmiejgpgamaaGreatDoorCFeed
import Derived.Test.YtbafmiejgpgamaaGreatDoorCEnc
namespace Go.Proofs.YtbafmiejgpgamaaGreatDoor
open Go.RowKit
attribute [local go_sem] ba_get
/-- Each slash is CRLF. -/
def lnsL : List UInt8 → List UInt8
  | [] => []
  | b :: r => (if b.toNat = 47 then [13, 10] else [b]) ++ lnsL r
theorem lnsL_at {l : List UInt8} {k : Nat} (h : k < l.length) : lnsL (l.drop k) = (if (l[k]).toNat = 47 then [13, 10] else [l[k]]) ++ lnsL (l.drop (k + 1)) := by
  rw [List.drop_eq_getElem_cons h]; rfl
theorem ba_one (l : List UInt8) (k : Nat) (h : k < l.length) : (ByteArray.mk l.toArray).extract k (k + 1) = ⟨#[l[k]]⟩ := by
  apply ByteArray.ext
  rw [ByteArray.data_extract, List.extract_toArray, List.extract_eq_take_drop]
  rw [show k + 1 - k = 1 by omega, List.drop_eq_getElem_cons h]
  rfl
set_option maxHeartbeats 4000000 in
theorem lines_any (l : List UInt8) (hl : l.length < 100000) (w : World) :
    Calls Tryz.prog 14 #[.string ⟨l.toArray⟩] w fun e w' => e = .returned (.string ⟨(lnsL l).toArray⟩) ∧ w = w' := by
  obtain ⟨R, hR⟩ : ∃ R, lnsL l = R := ⟨_, rfl⟩
  rw [hR]
  have HR := Lib.hid hR
  clear hR
  go_enter Tryz.func14, Tryz.ntmps14
  go_wp2_with fail
  go_loopw [3, 4] (fun o i wr => ∃ (k : Nat) (O : List UInt8), k ≤ l.length ∧ o = .string ⟨O.toArray⟩ ∧ i = .int .i64 k ∧ Hid (O ++ lnsL (l.drop k) = R) ∧ O.length ≤ 2 * k ∧ wr = w) (fun _ i _ => l.length - (intOf i).toNat)
  case atStart => exact ⟨0, [], Nat.zero_le _, rfl, rfl, Lib.hid (by rw [List.drop_zero]; exact HR.out), by simp, rfl⟩
  case round =>
    clear HR
    obtain ⟨k, O, hk, rfl, rfl, hr, hO, rfl⟩ := hrel
    by_cases hlt : k < l.length
    · have a1 : decide ((k : Int) < (l.length : Int)) = true := decide_eq_true (by omega)
      have a2 : decide (k < l.length) = true := decide_eq_true hlt
      have hi2 : (k : Int) < (l.length : Int) := by omega
      have hat := lnsL_at hlt
      have t1 := ba_one l k hlt
      have hw1 : wrap64 ((k : Int) + 1) = (k : Int) + 1 := by unfold wrap64; omega
      have hk2 : (k : Int) ≤ (k : Int) + 1 := by omega
      have hk3 : (k : Int) + 1 ≤ (l.length : Int) := by omega
      obtain ⟨b, hb⟩ : ∃ b, l[k] = b := ⟨_, rfl⟩
      rw [hb] at hat t1
      by_cases h47 : b.toNat = 47
      · have e47 : ((b.toNat : Int) == 47) = true := by rw [beq_iff_eq]; omega
        have s1 : ∀ w, (Op.stringOp .add ⟨O.toArray⟩ ⟨#[13, 10]⟩).run Tryz.prog w = .ok (.string ⟨(O ++ [13, 10]).toArray⟩) w := fun w => cstr_add O [13, 10] (by unfold CSmall; simp; omega)
        have hnext : Hid ((O ++ [13, 10]) ++ lnsL (l.drop (k + 1)) = R) := Lib.hid (by rw [← hr.out, hat, if_pos h47, List.append_assoc])
        have hl2 : (O ++ [13, 10]).length ≤ 2 * (k + 1) := by simp; omega
        obtain ⟨T, hT⟩ : ∃ T, O ++ [13, 10] = T := ⟨_, rfl⟩
        rw [hT] at s1 hnext hl2
        clear hat hT h47 t1 hr
        go_wp2_with fail
        go_roundw
        case rel => exact ⟨k + 1, T, by omega, rfl, by go_num, hnext, hl2, trivial⟩
        case measure => simp [intOf]; omega
      · have e47 : ((b.toNat : Int) == 47) = false := by rw [beq_eq_false_iff_ne]; omega
        have s1 : ∀ w, (Op.stringOp .add ⟨O.toArray⟩ ⟨#[b]⟩).run Tryz.prog w = .ok (.string ⟨(O ++ [b]).toArray⟩) w := fun w => cstr_add O [b] (by unfold CSmall; simp; omega)
        have hnext : Hid ((O ++ [b]) ++ lnsL (l.drop (k + 1)) = R) := Lib.hid (by rw [← hr.out, hat, if_neg h47, List.append_assoc])
        have hl2 : (O ++ [b]).length ≤ 2 * (k + 1) := by simp; omega
        obtain ⟨T, hT⟩ : ∃ T, O ++ [b] = T := ⟨_, rfl⟩
        rw [hT] at s1 hnext hl2
        clear hat hT h47 hr
        go_wp2_with fail
        go_roundw
        case rel => exact ⟨k + 1, T, by omega, rfl, by go_num, hnext, hl2, trivial⟩
        case measure => simp [intOf]; omega
    · have a1 : decide ((k : Int) < (l.length : Int)) = false := decide_eq_false (by omega)
      have a2 : decide (k < l.length) = false := decide_eq_false hlt
      obtain rfl : k = l.length := by omega
      have hres : Hid (O = R) := Lib.hid (by rw [← hr.out, List.drop_length]; unfold lnsL; rw [List.append_nil])
      clear hr
      go_wp2_with fail
      go_ret
      exact ⟨by rw [← hres.out]; rfl, rfl⟩
set_option maxHeartbeats 4000000 in
theorem decodes_yes (l b : List UInt8) (n s : Nat) (hl : l.length < 100000) (hL : (lnsL l).length < 1000000) (hd : dcdR (lnsL l) = (b, n, s)) (w : World) (hN : NTab w) :
    Calls Tryz.prog 16 #[.string ⟨l.toArray⟩, .string ⟨b.toArray⟩, .int .i64 (n : Int), .int .i64 (s : Int)] w fun e w' => e = .returned (.bool true) ∧ Below w.heap.size w w' := by
  have HD := Lib.hid fun W h => decode_any (lnsL l) hL W h
  have HV : Hid (dcdV (lnsL l) = .tuple #[.string ⟨b.toArray⟩, .int .i64 (n : Nat), .int .i64 (s : Nat)]) := Lib.hid (by unfold dcdV; rw [hd])
  have HX := Lib.hid fun W => lines_any l hl W
  obtain ⟨X, hX⟩ : ∃ X, lnsL l = X := ⟨_, rfl⟩
  rw [hX] at HD HV HX
  have hb : (b == b) = true := by simp
  have HN := Lib.hid hN
  clear hd hX hL hl hN
  go_enter Tryz.func16, Tryz.ntmps16
  go_wp2_with fail
  refine (HX.out w).mono ?_
  rintro e w1 ⟨rfl, rfl⟩
  go_wp2_with fail
  refine (HD.out _ HN.out).mono ?_
  rintro e w2 ⟨rfl, hb2⟩
  rw [HV.out]
  go_wp2_with fail
  go_ret
  exact ⟨by first | rfl | simp, hb2⟩
set_option maxHeartbeats 4000000 in
theorem encodes_yes (l t : List UInt8) (zs : List Int) (c : Nat) (hl : l.length < 1000000) (ht : t.length < 100000) (hn : zs.length < 90000) (p : Option Addr) (he : encR l zs = (lnsL t, 0)) (w : World) (hC : CellsIn w p zs.length (intC fun j => zs.getD j 0)) (hN : NTab w) :
    Calls Tryz.prog 17 #[.string ⟨l.toArray⟩, .string ⟨t.toArray⟩, .slice p zs.length c] w fun e w' => e = .returned (.bool true) ∧ Below w.heap.size w w' := by
  have HE := Lib.hid (encode_any l hl zs hn p c w hC hN)
  have HX := Lib.hid fun W => lines_any t ht W
  obtain ⟨X, hX⟩ : ∃ X, lnsL t = X := ⟨_, rfl⟩
  rw [hX] at HX he
  have HV : Hid (encV l zs = .tuple #[.string ⟨X.toArray⟩, .int .i64 0]) := Lib.hid (by unfold encV; rw [he]; rfl)
  have hb : (X == X) = true := by simp
  clear he hX hl ht hn hN hC
  go_enter Tryz.func17, Tryz.ntmps17
  go_wp2_with fail
  refine HE.out.mono ?_
  rintro e w2 ⟨rfl, hb2⟩
  rw [HV.out]
  go_wp2_with fail
  refine (HX.out w2).mono ?_
  rintro e w1 ⟨rfl, rfl⟩
  go_wp2_with fail
  go_ret
  exact ⟨by first | rfl | simp, hb2⟩
theorem k_feed : feedV (lnsL [53, 47, 97, 98]) = .tuple #[.agg #[.int .i64 2, .int .i64 0, .int .i64 0, .int .i64 3, .string ⟨#[97, 98]⟩, .string ⟨#[]⟩, .int .i64 0, .int .i64 0], .int .i64 5, .int .i64 0] := by kernel_rfl
theorem k_dec1 : dcdR (lnsL [51, 47, 97, 98, 99, 47, 48, 47, 47]) = ([97, 98, 99], 13, 200) := by kernel_rfl
theorem k_dec2 : dcdR (lnsL [51, 59, 120]) = ([], 2, 400) := by kernel_rfl
theorem k_enc : encR [97, 98, 99, 100, 101] [2] = (lnsL [50, 47, 97, 98, 47, 51, 47, 99, 100, 101, 47, 48, 47, 47], 0) := by kernel_rfl
set_option maxHeartbeats 8000000 in
theorem awake_any (w : World) (hN : NTab w) :
    Calls Tryz.prog 5 #[] w fun e w' => e = .returned (.bool true) ∧ Below w.heap.size w w' := by
  have HF : Hid (∀ W, NTab W → Calls Tryz.prog 12 #[.agg #[.int .i64 0, .int .i64 0, .int .i64 0, .int .i64 0, .string ⟨#[]⟩, .string ⟨#[]⟩, .int .i64 0, .int .i64 0], .string ⟨(lnsL [53, 47, 97, 98]).toArray⟩] W fun e w' => e = .returned (.tuple #[.agg #[.int .i64 2, .int .i64 0, .int .i64 0, .int .i64 3, .string ⟨#[97, 98]⟩, .string ⟨#[]⟩, .int .i64 0, .int .i64 0], .int .i64 5, .int .i64 0]) ∧ Below W.heap.size W w') := Lib.hid fun W h => by
    have h1 := feed_any (lnsL [53, 47, 97, 98]) (by decide) W h
    rw [k_feed] at h1
    exact h1
  have HX := Lib.hid fun W => lines_any [53, 47, 97, 98] (by decide) W
  have H1 := Lib.hid fun W h => decodes_yes [51, 47, 97, 98, 99, 47, 48, 47, 47] [97, 98, 99] 13 200 (by decide) (by decide) k_dec1 W h
  have H2 := Lib.hid fun W h => decodes_yes [51, 59, 120] [] 2 400 (by decide) (by decide) k_dec2 W h
  have HE := Lib.hid fun c p W hC h => encodes_yes [97, 98, 99, 100, 101] [50, 47, 97, 98, 47, 51, 47, 99, 100, 101, 47, 48, 47, 47] [2] c (by decide) (by decide) (by decide) p k_enc W hC h
  obtain ⟨X, hX⟩ : ∃ X, lnsL [53, 47, 97, 98] = X := ⟨_, rfl⟩
  rw [hX] at HF HX
  clear hX
  have he := fun W => eq_mid W
  go_enter Tryz.func5, Tryz.ntmps5
  go_wp2_with fail
  refine (new_any w).mono ?_
  rintro e w1 ⟨rfl, hb1⟩
  go_wp2_with fail
  refine (HX.out w1).mono ?_
  rintro e w2 ⟨rfl, rfl⟩
  go_wp2_with fail
  refine (HF.out w1 (hN.below hb1)).mono ?_
  rintro e w3 ⟨rfl, hb3⟩
  have hB3 := hb1.trans (hb3.mono hb1.size)
  have k3 := CBlk.new 34 w3 [.int .i64 2, .int .i64 0, .int .i64 0, .int .i64 3, .string ⟨#[97, 98]⟩, .string ⟨#[]⟩, .int .i64 0, .int .i64 0]
  have hB4 := hB3.alloc hB3.size (.cells #[.int .i64 2, .int .i64 0, .int .i64 0, .int .i64 3, .string ⟨#[97, 98]⟩, .string ⟨#[]⟩, .int .i64 0, .int .i64 0] 34)
  obtain ⟨W4, hW4⟩ : ∃ W4, w3.alloc (.cells #[.int .i64 2, .int .i64 0, .int .i64 0, .int .i64 3, .string ⟨#[97, 98]⟩, .string ⟨#[]⟩, .int .i64 0, .int .i64 0] 34) = W4 := ⟨_, rfl⟩
  have H4 := Lib.hid hW4
  have k4 : CBlk 34 W4 w3.heap.size [.int .i64 2, .int .i64 0, .int .i64 0, .int .i64 3, .string ⟨#[97, 98]⟩, .string ⟨#[]⟩, .int .i64 0, .int .i64 0] := by rw [← hW4]; exact k3
  rw [hW4] at hB4
  clear hW4 k3
  go_upto_region 2 with fail
  rw [H4.out]
  clear H4
  have c0 := k4.cell 0 (by simp)
  have c1 := k4.cell 1 (by simp)
  have c2 := k4.cell 2 (by simp)
  have c3 := k4.cell 3 (by simp)
  have c4 := k4.cell 4 (by simp)
  have c5 := k4.cell 5 (by simp)
  have c6 := k4.cell 6 (by simp)
  have c7 := k4.cell 7 (by simp)
  simp only [List.getElem_cons_zero, List.getElem_cons_succ] at c0 c1 c2 c3 c4 c5 c6 c7
  go_wp2_with fail
  refine (rest_mid W4).mono ?_
  rintro e w5 ⟨rfl, hb5⟩
  have k5 := k4.below hb5 k4.lt
  have hB5 := hB4.trans (hb5.mono hB4.size)
  clear c0 c1 c2 c3 c4 c5 c6 c7
  go_wp2_with fail
  refine (H1.out w5 (hN.below hB5)).mono ?_
  rintro e w6 ⟨rfl, hb6⟩
  have k6 := k5.below hb6 k5.lt
  have hB6 := hB5.trans (hb6.mono hB5.size)
  go_wp2_with fail
  refine (H2.out w6 (hN.below hB6)).mono ?_
  rintro e w7 ⟨rfl, hb7⟩
  have k7 := k6.below hb7 k6.lt
  have hB7 := hB6.trans (hb7.mono hB6.size)
  have hB8 := hB7.alloc hB7.size (.cells #[.int .i64 2] 3)
  have k8 := k7.alloc (.cells #[.int .i64 2] 3)
  have hc8 : CellsIn (w7.alloc (.cells #[.int .i64 2] 3)) (some ⟨w7.heap.size, 0, none⟩) 1 (intC fun j => [(2 : Int)].getD j 0) := fun j hj => by
    obtain rfl : j = 0 := by omega
    exact ⟨w7.heap.size, 0, rfl, by simp, (CBlk.new 3 w7 [.int .i64 2]).cell 0 (by simp)⟩
  go_wp2_with fail
  refine (HE.out 1 _ _ hc8 (hN.below hB8)).mono ?_
  rintro e w9 ⟨rfl, hb9⟩
  have k9 := k8.below hb9 k8.lt
  have hB9 := hB8.trans (hb9.mono hB8.size)
  have d0 := k9.cell 0 (by simp)
  have d1 := k9.cell 1 (by simp)
  have d2 := k9.cell 2 (by simp)
  have d3 := k9.cell 3 (by simp)
  have d4 := k9.cell 4 (by simp)
  have d5 := k9.cell 5 (by simp)
  have d6 := k9.cell 6 (by simp)
  have d7 := k9.cell 7 (by simp)
  simp only [List.getElem_cons_zero, List.getElem_cons_succ] at d0 d1 d2 d3 d4 d5 d6 d7
  go_wp2_with fail
  go_ret
  exact ⟨rfl, hB9⟩
end Go.Proofs.YtbafmiejgpgamaaGreatDoor
