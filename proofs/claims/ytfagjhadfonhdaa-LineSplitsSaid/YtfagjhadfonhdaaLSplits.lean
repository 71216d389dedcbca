/-
  The law LineSplits returns true for every input.
-/
import Derived.Test.YtfagjhadfonhdaaLHelp
import Derived.Test.YtfagjhadfonhdaaLRest
namespace Go.Proofs.Ytfagjhadfonhdaa
open Go.RowKit
theorem split_len (s : List UInt8) (n : Int) : (splR s n).1.1.length ≤ s.length := by
  unfold splR
  split
  · simp
  · split
    · simp
    · exact feed_len n s []
set_option maxRecDepth 100000 in
set_option maxHeartbeats 16000000 in
theorem splits_none (s : List UInt8) (n : Int)  (w : World)  (hs : s.length ≤ 2000) :
    Calls Try.prog 5 #[.string ⟨s.toArray⟩, .int .i64 n, .slice none 0 0] w fun e w' => e = .returned (.bool true) ∧ Below w.heap.size w w' := by
  obtain ⟨i0, hi, hz0, hz1, hz2⟩ := linfo_parts infoLn
  have d1 : decide ((2000 : Int) < (s.length : Int)) = false := decide_eq_false (by omega)
  have d2 : decide ((20 : Int) < (0 : Int)) = false := decide_eq_false (by omega)
  obtain ⟨⟨⟨SL, st⟩, se⟩, hS⟩ : ∃ z, splR s n = z := ⟨_, rfl⟩
  have HSL : Hid (SL.length < 10000) := Lib.hid (by
    have := split_len s n
    rw [hS] at this
    dsimp only at this
    omega)
  have HS := Lib.hid hS
  obtain ⟨⟨jt, je⟩, hJ⟩ : ∃ z, goJ [] ([] : List Ln) = z := ⟨_, rfl⟩
  have HJ : Hid (joinW (goJ [] ([] : List Ln)) = .tuple #[.string ⟨jt.toArray⟩, .int .i64 (je : Nat)]) := Lib.hid (by rw [hJ]; rfl)
  clear hS hJ
  have HC : Hid (LnsIn w none []) := Lib.hid (fun j hj => absurd hj (by simp))
  have HLS : Hid (LnsS []) := Lib.hid (fun x hx => by cases hx)
  have hB := Below.refl w.heap.size w
  go_enter Try.func5, Try.ntmps5
  go_wp2_with fail
  go_loopw [7] (fun i wr => i = .int .i64 0 ∧ wr = w) (fun i _ => 0)
  case atStart => exact ⟨rfl, rfl⟩
  case round =>
    obtain ⟨rfl, rfl⟩ := hrel
    go_wp2_with fail
    refine (lsplit_any s n (by omega) _).mono ?_
    rintro e w1 ⟨⟨v1, rfl, hv1⟩, hb⟩
    rw [HS.out] at hv1 ⊢
    dsimp only at hv1 ⊢
    have hB := hB.trans (hb.mono hB.size)
    clear hb
    obtain ⟨p1, k1, rfl, -⟩ := id hv1
    have HV1 := Lib.hid hv1
    clear hv1
    go_wp2_with fail
    refine (refSplit_any s n (by omega) _).mono ?_
    rintro e w2 ⟨hpost, hb⟩
    obtain ⟨v2, rfl, hv2⟩ := hpost.res
    rw [HS.out] at hv2 ⊢
    dsimp only at hv2 ⊢
    have hB := hB.trans (hb.mono hB.size)
    have HV1 := Lib.hid (HV1.out.below hb (Nat.le_refl _))
    obtain ⟨p2, k2, rfl, -⟩ := id hv2
    have HV2 := Lib.hid hv2
    clear hv2 hb hpost
    go_wp2_with fail
    refine (sameLines_any SL (by have := HSL.out; omega) _ _ _ HV1.out HV2.out).mono ?_
    rintro e W3 ⟨rfl, hb⟩
    have hB := hB.trans (hb.mono hB.size)
    clear hb
    have hlit := World.ownsRow_lit (base := wr.heap.size) (e := 27) (size := 2) W3 #[] 0 hB.size (by decide) rfl
    have hB1 := hB.alloc hB.size (.cells #[] 27)
    go_wp2_with (at_builtin; refine wpList_append_own_none rfl _ _ 32 rfl _ 27 i0 2 Try.underlying32 hi _ _ _ rfl hlit rfl ?_)
    have HX := Lib.hid (lns_of_own (L := []) hlit)
    have hB := hB1
    obtain ⟨w4, hw4⟩ : ∃ W, W3.alloc (.cells #[] 27) = W := ⟨_, rfl⟩
    rw [hw4] at HX hB ⊢
    clear hB1 hlit hw4
    have hX := Below.refl w4.heap.size w4
    refine (ljoin_any ([] : List Ln) (by decide) HLS.out _ _ HX.out).mono ?_
    rintro e w5 ⟨rfl, hb⟩
    rw [HJ.out]
    have hB := hB.trans (hb.mono hB.size)
    have hX := hX.trans (hb.mono hX.size)
    clear hb
    go_wp2_with fail
    refine (refJoin7_any ([] : List Ln) (by decide) HLS.out none 0 _ (HC.out.below hB (Nat.le_refl _))).mono ?_
    rintro e w6 ⟨rfl, hb⟩
    rw [HJ.out]
    have hB := hB.trans (hb.mono hB.size)
    have hX := hX.trans (hb.mono hX.size)
    clear hb
    go_wp2_with fail
    refine (sameLines_any ([] : List Ln) (by decide) _ _ _ (HX.out.below hX (Nat.le_refl _)) (show LnsAt _ (.slice none 0 0) ([] : List Ln) from ⟨_, _, rfl, (fun _ => rfl), HC.out.below hB (Nat.le_refl _)⟩)).mono ?_
    rintro e w7 ⟨rfl, hb⟩
    have hB := hB.trans (hb.mono hB.size)
    clear hb
    go_wp2_with fail
    refine (lawake_any _).mono ?_
    rintro e wz ⟨rfl, hb⟩
    have hB := hB.trans (hb.mono hB.size)
    clear hb
    go_wp2_with fail
    go_ret
    exact ⟨rfl, hB⟩
set_option maxRecDepth 100000 in
set_option maxHeartbeats 16000000 in
theorem splits_some (s : List UInt8) (n : Int) (L : List Ln) (ad : Addr) (c : Nat) (w : World) (hC : LnsIn w (some ad) L) (h20 : L.length ≤ 20) (hs : s.length ≤ 2000) :
    Calls Try.prog 5 #[.string ⟨s.toArray⟩, .int .i64 n, .slice (some ad) L.length c] w fun e w' => e = .returned (.bool true) ∧ Below w.heap.size w w' := by
  obtain ⟨i0, hi, hz0, hz1, hz2⟩ := linfo_parts infoLn
  have d1 : decide ((2000 : Int) < (s.length : Int)) = false := decide_eq_false (by omega)
  have d2 : decide ((20 : Int) < (L.length : Int)) = false := decide_eq_false (by omega)
  obtain ⟨⟨⟨SL, st⟩, se⟩, hS⟩ : ∃ z, splR s n = z := ⟨_, rfl⟩
  have HSL : Hid (SL.length < 10000) := Lib.hid (by
    have := split_len s n
    rw [hS] at this
    dsimp only at this
    omega)
  have HS := Lib.hid hS
  obtain ⟨⟨jt, je⟩, hJ⟩ : ∃ z, goJ [] L = z := ⟨_, rfl⟩
  have HJ : Hid (joinW (goJ [] L) = .tuple #[.string ⟨jt.toArray⟩, .int .i64 (je : Nat)]) := Lib.hid (by rw [hJ]; rfl)
  clear hS hJ
  have HC := Lib.hid hC
  clear hC
  go_enter Try.func5, Try.ntmps5
  go_wp2_with fail
  go_loopw [7] (fun i wr => ∃ k : Nat, k ≤ L.length ∧ i = .int .i64 k ∧ Hid (∀ x ∈ L.take k, x.tx.length ≤ 300) ∧ wr = w) (fun i _ => L.length - (intOf i).toNat)
  case atStart => exact ⟨0, Nat.zero_le _, rfl, Lib.hid (by simp), rfl⟩
  case round =>
    obtain ⟨k, hk, rfl, hall, rfl⟩ := hrel
    have hB := Below.refl wr.heap.size wr
    by_cases hlt : k < L.length
    · have h1 : decide ((k : Int) < (L.length : Int)) = true := decide_eq_true (by omega)
      have hb2 : (k : Int) < (L.length : Int) := by omega
      obtain ⟨b, off, e0, hbl, x0, x1⟩ := ln_cell HC.out hB hlt
      injection e0 with e0
      subst e0
      by_cases h300 : 300 < (L[k]).tx.length
      · have d3 : decide ((300 : Int) < ((L[k]).tx.length : Int)) = true := decide_eq_true (by omega)
        clear h300
        go_wp2_with fail
        refine (lawake_any _).mono ?_
        rintro e wz ⟨rfl, hb⟩
        have hB := hB.trans (hb.mono hB.size)
        clear hb
        go_wp2_with fail
        go_ret
        exact ⟨rfl, hB⟩
      · have d3 : decide ((300 : Int) < ((L[k]).tx.length : Int)) = false := decide_eq_false (by omega)
        have hnext : Hid (∀ x ∈ L.take (k + 1), x.tx.length ≤ 300) := Lib.hid (fun x hx => by
          rw [List.take_add_one, List.getElem?_eq_getElem hlt] at hx
          rcases List.mem_append.1 hx with hx | hx
          · exact hall.out x hx
          · rw [Option.toList_some, List.mem_singleton] at hx
            rw [hx]
            omega)
        clear h300
        go_wp2_with fail
        go_roundw
        case rel => exact ⟨k + 1, by omega, by go_num, hnext, trivial⟩
        case measure => simp [intOf]; omega
    · have h1 : decide ((k : Int) < (L.length : Int)) = false := decide_eq_false (by omega)
      obtain rfl : k = L.length := by omega
      have HLS : Hid (LnsS L) := Lib.hid (fun x hx => by
        have := hall.out x (by rw [List.take_length]; exact hx)
        omega)
      clear hall
      go_wp2_with fail
      refine (lsplit_any s n (by omega) _).mono ?_
      rintro e w1 ⟨⟨v1, rfl, hv1⟩, hb⟩
      rw [HS.out] at hv1 ⊢
      dsimp only at hv1 ⊢
      have hB := hB.trans (hb.mono hB.size)
      clear hb
      obtain ⟨p1, k1, rfl, -⟩ := id hv1
      have HV1 := Lib.hid hv1
      clear hv1
      go_wp2_with fail
      refine (refSplit_any s n (by omega) _).mono ?_
      rintro e w2 ⟨hpost, hb⟩
      obtain ⟨v2, rfl, hv2⟩ := hpost.res
      rw [HS.out] at hv2 ⊢
      dsimp only at hv2 ⊢
      have hB := hB.trans (hb.mono hB.size)
      have HV1 := Lib.hid (HV1.out.below hb (Nat.le_refl _))
      obtain ⟨p2, k2, rfl, -⟩ := id hv2
      have HV2 := Lib.hid hv2
      clear hv2 hb hpost
      go_wp2_with fail
      refine (sameLines_any SL (by have := HSL.out; omega) _ _ _ HV1.out HV2.out).mono ?_
      rintro e W3 ⟨rfl, hb⟩
      have hB := hB.trans (hb.mono hB.size)
      clear hb
      have hlit := World.ownsRow_lit (base := wr.heap.size) (e := 27) (size := 2) W3 #[] 0 hB.size (by decide) rfl
      have hB1 := hB.alloc hB.size (.cells #[] 27)
      have hnews := lnews_of (w := wr) HC.out hB1
      have hone := lnsC_one L
      have hlen := lnsC_length L
      have z1 : (Value.agg #[.string ⟨#[]⟩, .bool false]).cells.size = 2 := by rfl
      go_wp2_with (at_builtin; refine wpList_append_own _ rfl _ _ 32 rfl wr.heap.size 27 i0 (.agg #[.string ⟨#[]⟩, .bool false]) 2 24 Try.underlying32 hi hz0 hz1 hz2 z1 (by decide) _ _ _ rfl hlit ad L.length c (lnsC L) rfl hlen hnews hone (by unfold maxLen; omega) (by omega) hB1.size ?_; intro v' w4 hown' hgrow _)
      rw [Nat.zero_add] at hown'
      have HX := Lib.hid (lns_of_own hown')
      have hB := below_grownR hB1 hB1.size hgrow (fun r hr => (hlit.lt r hr).1)
      clear hB1 hlit hown' hgrow hnews hone hlen z1
      have hX := Below.refl w4.heap.size w4
      obtain ⟨px, cx, rfl, -⟩ := id HX.out
      refine (ljoin_any L (by omega) HLS.out _ _ HX.out).mono ?_
      rintro e w5 ⟨rfl, hb⟩
      rw [HJ.out]
      have hB := hB.trans (hb.mono hB.size)
      have hX := hX.trans (hb.mono hX.size)
      clear hb
      go_wp2_with fail
      refine (refJoin7_any L (by omega) HLS.out (some ad) c _ (HC.out.below hB (Nat.le_refl _))).mono ?_
      rintro e w6 ⟨rfl, hb⟩
      rw [HJ.out]
      have hB := hB.trans (hb.mono hB.size)
      have hX := hX.trans (hb.mono hX.size)
      clear hb
      go_wp2_with fail
      refine (sameLines_any L (by omega) _ _ _ (HX.out.below hX (Nat.le_refl _)) (show LnsAt _ (.slice (some ad) L.length c) L from ⟨_, _, rfl, (fun h => by cases h), HC.out.below hB (Nat.le_refl _)⟩)).mono ?_
      rintro e w7 ⟨rfl, hb⟩
      have hB := hB.trans (hb.mono hB.size)
      clear hb
      go_wp2_with fail
      refine (lawake_any _).mono ?_
      rintro e wz ⟨rfl, hb⟩
      have hB := hB.trans (hb.mono hB.size)
      clear hb
      go_wp2_with fail
      go_ret
      exact ⟨rfl, hB⟩
theorem splits_law (s : List UInt8) (n : Int) (L : List Ln) (p : Option Addr) (c : Nat) (hp : p = none → c = 0) (w : World) (hC : LnsIn w p L) :
    Calls Try.prog 5 #[.string ⟨s.toArray⟩, .int .i64 n, .slice p L.length c] w fun e w' => e = .returned (.bool true) ∧ Below w.heap.size w w' := by
  by_cases hbig : s.length ≤ 2000 ∧ L.length ≤ 20
  · cases p with
    | none =>
      obtain rfl := hp rfl
      obtain rfl := lns_nil hC
      exact splits_none s n w hbig.1
    | some ad => exact splits_some s n L ad c w hC hbig.2 hbig.1
  · have hB := Below.refl w.heap.size w
    clear hC
    by_cases h1 : 2000 < s.length
    · have d1 : decide ((2000 : Int) < (s.length : Int)) = true := decide_eq_true (by omega)
      clear h1 hbig
      go_enter Try.func5, Try.ntmps5
      go_wp2_with fail
      refine (lawake_any _).mono ?_
      rintro e wz ⟨rfl, hb⟩
      have hB := hB.trans (hb.mono hB.size)
      clear hb
      go_wp2_with fail
      go_ret
      exact ⟨rfl, hB⟩
    · have d1 : decide ((2000 : Int) < (s.length : Int)) = false := decide_eq_false (by omega)
      have d2 : decide ((20 : Int) < (L.length : Int)) = true := decide_eq_true (by omega)
      clear h1 hbig
      go_enter Try.func5, Try.ntmps5
      go_wp2_with fail
      refine (lawake_any _).mono ?_
      rintro e wz ⟨rfl, hb⟩
      have hB := hB.trans (hb.mono hB.size)
      clear hb
      go_wp2_with fail
      go_ret
      exact ⟨rfl, hB⟩
end Go.Proofs.Ytfagjhadfonhdaa
