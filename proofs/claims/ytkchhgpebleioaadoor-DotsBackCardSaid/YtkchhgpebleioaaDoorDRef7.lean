/-
  The reference's Common, for texts shorter than 49000 bytes.
-/
import Derived.Test.YtkchhgpebleioaaDoorDRef6
namespace Go.Proofs.YtkchhgpebleioaaDoor
open Go.RowKit
theorem comN_at {A B : List (List UInt8)} {k : Nat} (ha : k < A.length) (hb : k < B.length) : comN (A.drop k) (B.drop k) = if A[k] == B[k] then comN (A.drop (k + 1)) (B.drop (k + 1)) + 1 else 0 := by
  rw [List.drop_eq_getElem_cons ha, List.drop_eq_getElem_cons hb, comN]
theorem comN_end {A B : List (List UInt8)} {k : Nat} (h : ¬ (k < A.length ∧ k < B.length)) : comN (A.drop k) (B.drop k) = 0 := by
  by_cases ha : k < A.length
  · have e : B.drop k = [] := List.drop_eq_nil_of_le (by omega)
    rw [e]
    cases A.drop k <;> rfl
  · have e : A.drop k = [] := List.drop_eq_nil_of_le (by omega)
    rw [e]
    rfl
/-- The beginning of a row of one's own, to read. -/
theorem own_take {w : World} {base n : Nat} {v : Value} {K : List (List UInt8)} (h : w.ownsRow base 9 1 v K.length (K.map strW)) (hn : n ≤ K.length) :
    ∃ p c, v = .slice p K.length c ∧ K.length ≤ c ∧ StrsAt w (.slice p (K.take n).length c) (K.take n) := by
  rcases h.2 with ⟨rfl, h0⟩ | ⟨g, cap, cur, rfl, hb, hg, hc, _⟩
  · have : K = [] := List.eq_nil_of_length_eq_zero h0
    subst this
    obtain rfl : n = 0 := by simpa using hn
    exact ⟨none, 0, rfl, Nat.le_refl _, StrsAt.nil _⟩
  · refine ⟨_, cap, rfl, hc, ?_⟩
    have ⟨p, c, e, hC⟩ := strs_of_own h
    injection e with e1 e2 e3
    subst e1
    refine ⟨_, _, rfl, fun j hj => ?_⟩
    rw [List.length_take, Nat.min_eq_left hn, Nat.mul_one] at hj
    obtain ⟨b, off, e4, e5, e6⟩ := hC j (by omega)
    refine ⟨b, off, e4, e5, ?_⟩
    rw [e6]
    unfold strC
    dsimp only
    rw [List.getD_eq_getElem?_getD, List.getD_eq_getElem?_getD, List.getElem?_take_of_lt hj]
set_option maxRecDepth 100000 in
set_option maxHeartbeats 8000000 in
theorem refCommon_any (a b : List UInt8) (ha : a.length < 48000) (hb : b.length < 48000) (w : World) :
    Calls Tryd.prog 32 #[.string ⟨a.toArray⟩, .string ⟨b.toArray⟩] w fun e w' => e = .returned (strR (commonR a b)) ∧ Below w.heap.size w w' := by
  obtain ⟨q, hq⟩ : ∃ q, normB a = q := ⟨_, rfl⟩
  obtain ⟨r, hr⟩ : ∃ r, normB b = r := ⟨_, rfl⟩
  have HQ := Lib.hid hq
  have HP := Lib.hid hr
  have hR : commonR a b = if q && r then .inr (putL ((segsL a).take (comN (segsL a) (segsL b))) false) else .inl 3 := by unfold commonR; rw [hq, hr]
  cases q with
  | false =>
    have HR : Hid (commonR a b = .inl 3) := Lib.hid hR
    clear hR hq hr
    go_enter Tryd.func32, Tryd.ntmps32
    go_wp2_with fail
    refine (refNormal_any a (by omega) _).mono ?_
    rintro e w1 ⟨rfl, hB⟩
    rw [HQ.out]
    go_wp2_with fail
    go_ret2
    exact ⟨by rw [HR.out]; rfl, hB⟩
  | true =>
    cases r with
    | false =>
      have HR : Hid (commonR a b = .inl 3) := Lib.hid hR
      clear hR hq hr
      go_enter Tryd.func32, Tryd.ntmps32
      go_wp2_with fail
      refine (refNormal_any a (by omega) _).mono ?_
      rintro e w1 ⟨rfl, hB⟩
      rw [HQ.out]
      go_wp2_with fail
      refine (refNormal_any b (by omega) _).mono ?_
      rintro e w2 ⟨rfl, hB2⟩
      rw [HP.out]
      have hB := hB.trans (hB2.mono hB.size)
      go_wp2_with fail
      go_ret2
      exact ⟨by rw [HR.out]; rfl, hB⟩
    | true =>
      have hsa := fun W => refSegments_any a (by omega) W
      have hsb := fun W => refSegments_any b (by omega) W
      rw [show segsR a = .inr (segsL a) by unfold segsR; rw [hq]; rfl] at hsa
      rw [show segsR b = .inr (segsL b) by unfold segsR; rw [hr]; rfl] at hsb
      have hla := segs_len a
      have hlb := segs_len b
      have hma := fun (x : List UInt8) (h : x ∈ segsL a) => segs_mem h
      obtain ⟨A, hA⟩ : ∃ A, segsL a = A := ⟨_, rfl⟩
      obtain ⟨B, hBB⟩ : ∃ B, segsL b = B := ⟨_, rfl⟩
      rw [hA] at hsa hR hla hma
      rw [hBB] at hsb hR hlb
      obtain ⟨m, hm⟩ : ∃ m, comN A B = m := ⟨_, rfl⟩
      have hmA : m ≤ A.length := by rw [← hm]; exact (comN_le A B).1
      have HR : Hid (commonR a b = .inr (putL (A.take m) false)) := Lib.hid (by rw [hR, hm]; rfl)
      have H0 : Hid (comN (A.drop 0) (B.drop 0) + 0 = m) := Lib.hid hm
      have HSA := Lib.hid hsa
      have HSB := Lib.hid hsb
      have HMA := Lib.hid hma
      clear hq hr hsa hsb hma hA hBB hm hR
      go_enter Tryd.func32, Tryd.ntmps32
      go_wp2_with fail
      refine (refNormal_any a (by omega) _).mono ?_
      rintro e w1 ⟨rfl, hB⟩
      rw [HQ.out]
      go_wp2_with fail
      refine (refNormal_any b (by omega) _).mono ?_
      rintro e w2 ⟨rfl, hB2⟩
      rw [HP.out]
      have hB := hB.trans (hB2.mono hB.size)
      clear hB2
      go_wp2_with fail
      refine (HSA.out _).mono ?_
      rintro e w3 ⟨⟨v, rfl, hra⟩, hB2⟩
      have hB := hB.trans (hB2.mono hB.size)
      clear hB2
      obtain ⟨pa, ca, rfl, hca, hTA⟩ := own_take hra hmA
      obtain ⟨pa', ca', hv, hCA⟩ := strs_of_own hra
      injection hv with hv1 hv2 hv3
      subst hv1 hv3
      have hz3 := hB.size
      clear hra
      go_wp2_with fail
      refine (HSB.out _).mono ?_
      rintro e w4 ⟨⟨v, rfl, hrb⟩, hB2⟩
      have hB := hB.trans (hB2.mono hB.size)
      have HTA := Lib.hid (hTA.below hB2 (Nat.le_refl _))
      have HCA := Lib.hid (hCA.below hB2 (Nat.le_refl _))
      obtain ⟨pb, cb, rfl, hCB⟩ := strs_of_own hrb
      have HCB := Lib.hid hCB
      have HB := Lib.hid hB
      clear hB2 hTA hCA hrb hCB hB hz3 hv2
      go_wp2_with fail
      go_loopw [10] (fun i wr => ∃ k : Nat, k ≤ A.length ∧ i = .int .i64 k ∧ Hid (comN (A.drop k) (B.drop k) + k = m) ∧ Below w4.heap.size w4 wr) (fun i _ => A.length - (intOf i).toNat)
      case atStart => exact ⟨0, Nat.zero_le _, rfl, H0, Below.refl _ _⟩
      case round =>
      obtain ⟨k, hk, rfl, hst, hBr⟩ := hrel
      have hTr := HTA.out.below hBr (Nat.le_refl _)
      have hfin : m = k → Calls Tryd.prog 49 #[.slice pa k ca, .bool false] wr.drew fun e w' => e = .returned (.string ⟨(putL (A.take m) false).toArray⟩) ∧ wr.drew = w' := fun e => by
        have := refPut_any (A.take m) false (by rw [List.length_take]; omega) (fun x hx => by have := HMA.out x (List.take_subset _ _ hx); omega) _ wr.drew (hTr.below (Below.drew (Below.refl wr.heap.size wr)) (Nat.le_refl _))
        rw [List.length_take, Nat.min_eq_left hmA] at this
        rw [← e]
        exact this
      have HFIN := Lib.hid hfin
      clear hfin hTr
      by_cases hlt : k < A.length
      · have d1 : decide ((k : Int) < (A.length : Int)) = true := decide_eq_true (by omega)
        by_cases hlt2 : k < B.length
        · have d2 : decide ((k : Int) < (B.length : Int)) = true := decide_eq_true (by omega)
          have hb1 : (k : Int) < (A.length : Int) := by omega
          have hb2 : (k : Int) < (B.length : Int) := by omega
          obtain ⟨b1, o1, rfl, l1, x0⟩ := str_cell HCA.out hBr hlt
          obtain ⟨b2, o2, rfl, l2, y0⟩ := str_cell HCB.out hBr hlt2
          have hat := hst.out
          rw [comN_at hlt hlt2] at hat
          obtain ⟨x, hx⟩ : ∃ x, A[k] = x := ⟨_, rfl⟩
          obtain ⟨y, hy⟩ : ∃ y, B[k] = y := ⟨_, rfl⟩
          rw [hx] at hat x0
          rw [hy] at hat y0
          obtain ⟨c, hc⟩ : ∃ c, (x == y) = c := ⟨_, rfl⟩
          rw [hc] at hat
          have HAT := Lib.hid hat
          clear hat hx hy hst
          cases c
          · have HE : Hid (m = k) := Lib.hid (by have := HAT.out; simp at this; omega)
            have q4 : (k : Int) ≤ (ca : Int) := by omega
            have q5 : k ≤ ca := by omega
            go_wp2_with fail
            go_region
            all_goals
              go_wp2_with fail
              refine (HFIN.out HE.out).mono ?_
              rintro e w' ⟨rfl, rfl⟩
              go_wp2_with fail
              go_ret2
              exact ⟨by rw [HR.out]; rfl, (HB.out.trans (hBr.mono HB.out.size)).drew⟩
          · have hnext : Hid (comN (A.drop (k + 1)) (B.drop (k + 1)) + (k + 1) = m) := Lib.hid (by have := HAT.out; simp at this; omega)
            go_wp2_with fail
            go_region
            all_goals
              go_wp2_with fail
              go_roundw
              case rel => exact ⟨k + 1, by omega, by go_num, hnext, hBr.drew⟩
              case measure => simp [intOf]; omega
        · have d2 : decide ((k : Int) < (B.length : Int)) = false := decide_eq_false (by omega)
          have HE : Hid (m = k) := Lib.hid (by rw [← hst.out, comN_end (fun h => hlt2 h.2)]; omega)
          have q4 : (k : Int) ≤ (ca : Int) := by omega
          have q5 : k ≤ ca := by omega
          go_wp2_with fail
          go_region
          all_goals
            go_wp2_with fail
            refine (HFIN.out HE.out).mono ?_
            rintro e w' ⟨rfl, rfl⟩
            go_wp2_with fail
            go_ret2
            exact ⟨by rw [HR.out]; rfl, (HB.out.trans (hBr.mono HB.out.size)).drew⟩
      · have d1 : decide ((k : Int) < (A.length : Int)) = false := decide_eq_false (by omega)
        have HE : Hid (m = k) := Lib.hid (by rw [← hst.out, comN_end (fun h => hlt h.1)]; omega)
        have q4 : (k : Int) ≤ (ca : Int) := by omega
        have q5 : k ≤ ca := by omega
        go_wp2_with fail
        go_region
        all_goals
          go_wp2_with fail
          refine (HFIN.out HE.out).mono ?_
          rintro e w' ⟨rfl, rfl⟩
          go_wp2_with fail
          go_ret2
          exact ⟨by rw [HR.out]; rfl, (HB.out.trans (hBr.mono HB.out.size)).drew⟩
end Go.Proofs.YtkchhgpebleioaaDoor
