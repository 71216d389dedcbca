/-
  The program's Common, for texts shorter than 40000 bytes. The library's variable of the search must hold a number.
-/
import Derived.Test.YtkchhgpebleioaaDoorDProg7
namespace Go.Proofs.YtkchhgpebleioaaDoor
open Go.RowKit
set_option maxRecDepth 100000 in
set_option maxHeartbeats 8000000 in
theorem common_any (a b : List UInt8) (ha : a.length < 40000) (hb : b.length < 40000) (w : World) (hM : ML w) :
    Calls Tryd.prog 31 #[.string ⟨a.toArray⟩, .string ⟨b.toArray⟩] w fun e w' => e = .returned (strR (commonR a b)) ∧ Below w.heap.size w w' := by
  obtain ⟨q, hq⟩ : ∃ q, normB a = q := ⟨_, rfl⟩
  obtain ⟨r, hr⟩ : ∃ r, normB b = r := ⟨_, rfl⟩
  have HM := Lib.hid hM
  clear hM
  have HQ := Lib.hid hq
  have HP := Lib.hid hr
  have hR : commonR a b = if q && r then .inr (putL ((segsL a).take (comN (segsL a) (segsL b))) false) else .inl 3 := by unfold commonR; rw [hq, hr]
  cases q with
  | false =>
    have HR : Hid (commonR a b = .inl 3) := Lib.hid hR
    clear hR hq hr
    go_enter Tryd.func31, Tryd.ntmps31
    go_wp2_with fail
    refine (normal_any a (by omega) _ HM.out).mono ?_
    rintro e w1 ⟨rfl, hB⟩
    rw [HQ.out]
    go_wp2_with fail
    go_ret2
    exact ⟨by rw [HR.out]; rfl, hB⟩
  | true =>
    cases r with
    | false =>
      have HR : Hid (commonR a b = .inl 3) := Lib.hid hR
      clear hR hq hr
      go_enter Tryd.func31, Tryd.ntmps31
      go_wp2_with fail
      refine (normal_any a (by omega) _ HM.out).mono ?_
      rintro e w1 ⟨rfl, hB⟩
      rw [HQ.out]
      go_wp2_with fail
      refine (normal_any b (by omega) _ (HM.out.below hB)).mono ?_
      rintro e w2 ⟨rfl, hB2⟩
      rw [HP.out]
      have hB := hB.trans (hB2.mono hB.size)
      go_wp2_with fail
      go_ret2
      exact ⟨by rw [HR.out]; rfl, hB⟩
    | true =>
      have hsa := fun W => segments_any a (norm_pos hq) (by omega) W
      have hsb := fun W => segments_any b (norm_pos hr) (by omega) W
      have hla := segs_len a
      have hlb := segs_len b
      have hma := fun (x : List UInt8) (h : x ∈ segsL a) => segs_mem h
      obtain ⟨A, hA⟩ : ∃ A, segsL a = A := ⟨_, rfl⟩
      obtain ⟨B, hBB⟩ : ∃ B, segsL b = B := ⟨_, rfl⟩
      rw [hA] at hsa hR hla hma
      rw [hBB] at hsb hR hlb
      obtain ⟨m, hm⟩ : ∃ m, comN A B = m := ⟨_, rfl⟩
      have hmA : m ≤ A.length := by rw [← hm]; exact (comN_le A B).1
      have HR : Hid (commonR a b = .inr (putL (A.take m) false)) := Lib.hid (by rw [hR, hm]; rfl)
      have H0 : Hid (comN (A.drop 0) (B.drop 0) + 0 = m) := Lib.hid hm
      have HSA := Lib.hid hsa
      have HSB := Lib.hid hsb
      have HMA := Lib.hid hma
      clear hq hr hsa hsb hma hA hBB hm hR
      go_enter Tryd.func31, Tryd.ntmps31
      go_wp2_with fail
      refine (normal_any a (by omega) _ HM.out).mono ?_
      rintro e w1 ⟨rfl, hB⟩
      rw [HQ.out]
      go_wp2_with fail
      refine (normal_any b (by omega) _ (HM.out.below hB)).mono ?_
      rintro e w2 ⟨rfl, hB2⟩
      rw [HP.out]
      have hB := hB.trans (hB2.mono hB.size)
      clear hB2
      go_wp2_with fail
      refine (HSA.out _).mono ?_
      rintro e w3 ⟨v, rfl, hra, hB2⟩
      have hB := hB.trans (hB2.mono hB.size)
      clear hB2
      obtain ⟨pa, ca, rfl, hca, hTA⟩ := own_take hra hmA
      obtain ⟨pa', ca', hv, hCA⟩ := strs_of_own hra
      injection hv with hv1 hv2 hv3
      subst hv1 hv3
      have hz3 := hB.size
      clear hra
      go_wp2_with fail
      refine (HSB.out _).mono ?_
      rintro e w4 ⟨v, rfl, hrb, hB2⟩
      have hB := hB.trans (hB2.mono hB.size)
      have HTA := Lib.hid (hTA.below hB2 (Nat.le_refl _))
      have HCA := Lib.hid (hCA.below hB2 (Nat.le_refl _))
      obtain ⟨pb, cb, rfl, hCB⟩ := strs_of_own hrb
      have HCB := Lib.hid hCB
      have HB := Lib.hid hB
      clear hB2 hTA hCA hrb hCB hB hz3 hv2
      go_wp2_with fail
      go_loopw [8] (fun i wr => ∃ k : Nat, k ≤ A.length ∧ i = .int .i64 k ∧ Hid (comN (A.drop k) (B.drop k) + k = m) ∧ Below w4.heap.size w4 wr) (fun i _ => A.length - (intOf i).toNat)
      case atStart => exact ⟨0, Nat.zero_le _, rfl, H0, Below.refl _ _⟩
      case round =>
      obtain ⟨k, hk, rfl, hst, hBr⟩ := hrel
      have hTr := HTA.out.below hBr (Nat.le_refl _)
      have hfin : m = k → Calls Tryd.prog 41 #[.slice pa k ca, .bool false] wr.drew fun e w' => e = .returned (.string ⟨(putL (A.take m) false).toArray⟩) ∧ Below wr.drew.heap.size wr.drew w' := fun e => by
        have := build_any (A.take m) false (by rw [List.length_take]; omega) (fun x hx => by have := HMA.out x (List.take_subset _ _ hx); omega) _ wr.drew (hTr.below (Below.drew (Below.refl wr.heap.size wr)) (Nat.le_refl _))
        rw [List.length_take, Nat.min_eq_left hmA] at this
        rw [← e]
        exact this
      have HFIN := Lib.hid hfin
      have HFB : Hid (Below w.heap.size w wr.drew) := Lib.hid (HB.out.trans (hBr.mono HB.out.size)).drew
      obtain ⟨mn, hmn⟩ : ∃ mn, min A.length B.length = mn := ⟨_, rfl⟩
      have m1 : min (A.length : Int) (B.length : Int) = (mn : Int) := by omega
      have m2 : (if (B.length : Int) < (A.length : Int) then (B.length : Int) else (A.length : Int)) = (mn : Int) := by split <;> omega
      have m3 : (if (A.length : Int) ≤ (B.length : Int) then (A.length : Int) else (B.length : Int)) = (mn : Int) := by split <;> omega
      have HMN := Lib.hid hmn
      clear hmn
      clear hfin hTr
      by_cases hlt : k < A.length
      · by_cases hlt2 : k < B.length
        · have d2 : decide ((k : Int) < (mn : Int)) = true := decide_eq_true (by have := HMN.out; omega)
          have d3 : decide (k < mn) = true := decide_eq_true (by have := HMN.out; omega)
          have hb1 : (k : Int) < (A.length : Int) := by omega
          have hb2 : (k : Int) < (B.length : Int) := by omega
          obtain ⟨b1, o1, rfl, l1, x0⟩ := str_cell HCA.out hBr hlt
          obtain ⟨b2, o2, rfl, l2, y0⟩ := str_cell HCB.out hBr hlt2
          have hat := hst.out
          rw [comN_at hlt hlt2] at hat
          obtain ⟨x, hx⟩ : ∃ x, A[k] = x := ⟨_, rfl⟩
          obtain ⟨y, hy⟩ : ∃ y, B[k] = y := ⟨_, rfl⟩
          rw [hx] at hat x0
          rw [hy] at hat y0
          obtain ⟨c, hc⟩ : ∃ c, (x == y) = c := ⟨_, rfl⟩
          rw [hc] at hat
          have HAT := Lib.hid hat
          clear hat hx hy hst
          cases c
          · have HE : Hid (m = k) := Lib.hid (by have := HAT.out; simp at this; omega)
            have q4 : (k : Int) ≤ (ca : Int) := by omega
            have q5 : k ≤ ca := by omega
            go_wp2_with fail
            go_region
            all_goals
              go_wp2_with fail
              refine (HFIN.out HE.out).mono ?_
              rintro e w' ⟨rfl, hb9⟩
              have HB9 := Lib.hid hb9
              clear hb9
              go_wp2_with fail
              go_ret2
              exact ⟨by rw [HR.out]; rfl, HFB.out.trans (HB9.out.mono HFB.out.size)⟩
          · have hnext : Hid (comN (A.drop (k + 1)) (B.drop (k + 1)) + (k + 1) = m) := Lib.hid (by have := HAT.out; simp at this; omega)
            go_wp2_with fail
            go_region
            all_goals
              go_wp2_with fail
              go_roundw
              case rel => exact ⟨k + 1, by omega, by go_num, hnext, hBr.drew⟩
              case measure => simp [intOf]; omega
        · have d2 : decide ((k : Int) < (mn : Int)) = false := decide_eq_false (by have := HMN.out; omega)
          have d3 : decide (k < mn) = false := decide_eq_false (by have := HMN.out; omega)
          have HE : Hid (m = k) := Lib.hid (by rw [← hst.out, comN_end (fun h => hlt2 h.2)]; omega)
          have q4 : (k : Int) ≤ (ca : Int) := by omega
          have q5 : k ≤ ca := by omega
          go_wp2_with fail
          go_region
          all_goals
            go_wp2_with fail
            refine (HFIN.out HE.out).mono ?_
            rintro e w' ⟨rfl, hb9⟩
            have HB9 := Lib.hid hb9
            clear hb9
            go_wp2_with fail
            go_ret2
            exact ⟨by rw [HR.out]; rfl, HFB.out.trans (HB9.out.mono HFB.out.size)⟩
      · have d2 : decide ((k : Int) < (mn : Int)) = false := decide_eq_false (by have := HMN.out; omega)
        have d3 : decide (k < mn) = false := decide_eq_false (by have := HMN.out; omega)
        have HE : Hid (m = k) := Lib.hid (by rw [← hst.out, comN_end (fun h => hlt h.1)]; omega)
        have q4 : (k : Int) ≤ (ca : Int) := by omega
        have q5 : k ≤ ca := by omega
        go_wp2_with fail
        go_region
        all_goals
          go_wp2_with fail
          refine (HFIN.out HE.out).mono ?_
          rintro e w' ⟨rfl, hb9⟩
          have HB9 := Lib.hid hb9
          clear hb9
          go_wp2_with fail
          go_ret2
          exact ⟨by rw [HR.out]; rfl, HFB.out.trans (HB9.out.mono HFB.out.size)⟩
end Go.Proofs.YtkchhgpebleioaaDoor
