/-
  The laws DotsMakes and DotsCleans, for every argument. The library's variable of the search must hold a number.
-/
import Derived.Test.YtkchhgpebleioaaDoorDLaw2
namespace Go.Proofs.YtkchhgpebleioaaDoor
open Go.RowKit
theorem strs_list {W : World} {p : Option Addr} {n : Nat} {f : Nat → List UInt8} (h : CellsIn W p (n * 1) (strC f)) : ∃ L : List (List UInt8), L.length = n ∧ CellsIn W p (L.length * 1) (strC fun j => L.getD j []) := by
  refine ⟨(List.range n).map f, by simp, fun j hj => ?_⟩
  have hj' : j < n := by simpa using hj
  obtain ⟨b, off, e, h1, h2⟩ := h j (by omega)
  refine ⟨b, off, e, h1, ?_⟩
  rw [h2]
  unfold strC
  simp [List.getD_eq_getElem?_getD, hj']
set_option maxRecDepth 100000 in
set_option maxHeartbeats 8000000 in
theorem dotsMakes_any (L : List (List UInt8)) (p : Option Addr) (c : Nat) (hp : p = none → c = 0) (o : Bool) (w : World) (hM : ML w) (hC : CellsIn w p (L.length * 1) (strC fun j => L.getD j [])) :
    Calls Tryd.prog 6 #[.slice p L.length c, .bool o] w fun e w' => e = .returned (.bool true) ∧ Below w.heap.size w w' := by
  have HM := Lib.hid hM
  have HC := Lib.hid hC
  have HP := Lib.hid hp
  clear hM hC hp
  by_cases h1 : 80 < L.length
  · have d1 : decide ((80 : Int) < (L.length : Int)) = true := decide_eq_true (by omega)
    have d1n : decide (80 < L.length) = true := decide_eq_true h1
    clear h1
    go_enter Tryd.func6, Tryd.ntmps6
    go_wp2_with fail
    refine (awake_any _ HM.out).mono ?_
    rintro e w1 ⟨rfl, hB⟩
    go_wp2_with fail
    go_ret
    exact ⟨rfl, hB⟩
  · have d1 : decide ((80 : Int) < (L.length : Int)) = false := decide_eq_false (by omega)
    have d1n : decide (80 < L.length) = false := decide_eq_false h1
    obtain ⟨T, x, hT⟩ := strR_form (makeR L o)
    have HT := Lib.hid hT
    have H0 : Hid (∀ y ∈ L.take 0, y.length ≤ 200) := Lib.hid (fun y hy => by simp at hy)
    clear hT
    go_enter Tryd.func6, Tryd.ntmps6
    go_wp2_with fail
    go_loopw [5] (fun i wr => ∃ k : Nat, k ≤ L.length ∧ i = .int .i64 k ∧ Hid (∀ y ∈ L.take k, y.length ≤ 200) ∧ wr = w) (fun i _ => L.length - (intOf i).toNat)
    case atStart => exact ⟨0, Nat.zero_le _, rfl, H0, rfl⟩
    case round =>
    obtain ⟨k, hk, rfl, hst, rfl⟩ := hrel
    by_cases hlt : k < L.length
    · have h2 : decide ((k : Int) < (L.length : Int)) = true := decide_eq_true (by omega)
      have hb2 : (k : Int) < (L.length : Int) := by omega
      obtain ⟨b, off, rfl, hbl, hcell⟩ := str_cell HC.out (Below.refl _ _) hlt
      have htk := List.take_succ_eq_append_getElem hlt
      obtain ⟨y, hy⟩ : ∃ y, L[k] = y := ⟨_, rfl⟩
      rw [hy] at hcell htk
      have HTK := Lib.hid htk
      clear hy htk
      by_cases h3 : 200 < y.length
      · have d3 : decide ((200 : Int) < (y.length : Int)) = true := decide_eq_true (by omega)
        have d3n : decide (200 < y.length) = true := decide_eq_true h3
        clear h3
        go_wp2_with fail
        refine (awake_any _ HM.out).mono ?_
        rintro e w1 ⟨rfl, hB⟩
        go_wp2_with fail
        go_ret
        exact ⟨rfl, hB⟩
      · have d3 : decide ((200 : Int) < (y.length : Int)) = false := decide_eq_false (by omega)
        have d3n : decide (200 < y.length) = false := decide_eq_false h3
        have hnext : Hid (∀ y ∈ L.take (k + 1), y.length ≤ 200) := Lib.hid (fun z hz => by
          rw [HTK.out] at hz
          rcases List.mem_append.1 hz with hz | hz
          · exact hst.out z hz
          · rw [List.mem_singleton.1 hz]; omega)
        clear h3
        go_wp2_with fail
        go_roundw
        case rel => exact ⟨k + 1, by omega, by go_num, hnext, trivial⟩
        case measure => simp [intOf]; omega
    · have h2 : decide ((k : Int) < (L.length : Int)) = false := decide_eq_false (by omega)
      have hall : ∀ y ∈ L, y.length ≤ 200 := fun y hy => hst.out y (by rw [List.take_of_length_le (by omega)]; exact hy)
      have HALL := Lib.hid hall
      have HOWN := Lib.hid (ownTexts_any L (by omega) p c HP.out wr HC.out)
      have HREF := Lib.hid (fun W (h : StrsAt W (.slice p L.length c) L) => refMake_any L o (by omega) (fun y hy => by have := HALL.out y hy; omega) _ W h)
      have HMK := Lib.hid (fun v W (h : StrsAt W v L) => make_any L o (by omega) (fun y hy => by have := HALL.out y hy; omega) v W h)
      have HARG : Hid (StrsAt wr (.slice p L.length c) L) := Lib.hid ⟨p, c, rfl, HC.out⟩
      clear hall hst
      go_wp2_with fail
      refine HOWN.out.mono ?_
      rintro e w1 ⟨u, rfl, hu, hB⟩
      have HU := Lib.hid hu
      obtain ⟨pu, cu, rfl, -⟩ := hu
      go_wp2_with fail
      refine (HMK.out _ _ HU.out).mono ?_
      rintro e w2 ⟨rfl, hb⟩
      rw [HT.out]
      have hB := hB.trans (hb.mono hB.size)
      have HU := Lib.hid (HU.out.below hb (Nat.le_refl _))
      clear hb
      go_wp2_with fail
      refine (HREF.out _ (HARG.out.below hB (Nat.le_refl _))).mono ?_
      rintro e w3 ⟨rfl, rfl⟩
      rw [HT.out]
      go_wp2_with fail
      refine (sameTexts_any L (by omega) _ _ _ HU.out (HARG.out.below hB (Nat.le_refl _))).mono ?_
      rintro e w4 ⟨rfl, hb⟩
      have hB := hB.trans (hb.mono hB.size)
      clear hb
      go_wp2_with fail
      refine (awake_any _ (HM.out.below hB)).mono ?_
      rintro e w5 ⟨rfl, hb⟩
      have hB := hB.trans (hb.mono hB.size)
      clear hb
      go_wp2_with fail
      go_ret
      exact ⟨rfl, hB⟩
theorem clnF_len : ∀ (R K : List (List UInt8)) (o : Bool) (t : List UInt8), clnF R K o = some t → t.length ≤ (flatL K).length + (flatL R).length + 1
  | [], K, o, t, h => by
    simp only [clnF, Option.some.injEq] at h
    subst h
    unfold putL
    rw [List.length_append]
    split
    · simp [flatL]
    · simp
      omega
  | x :: r, K, o, t, h => by
    unfold clnF at h
    split at h
    · split at h
      · cases h
      · have := clnF_len r K.dropLast true t h
        have h2 : (flatL K.dropLast).length ≤ (flatL K).length := by
          rw [List.dropLast_eq_take]
          exact flat_take K _
        simp only [flatL, List.length_cons, List.length_append]
        omega
    · split at h
      · have := clnF_len r K true t h
        simp only [flatL, List.length_cons, List.length_append]
        omega
      · have := clnF_len r (K ++ [x]) false t h
        rw [flat_append] at this
        simp only [flatL, List.length_cons, List.length_append, List.length_nil] at this ⊢
        omega
theorem clean_len {p t : List UInt8} (h : cleanR p = .inr t) : t.length ≤ p.length + 1 := by
  unfold cleanR at h
  split at h
  · rename_i hp
    cases hc : clnF (piecesL p) [] false with
    | none => rw [hc] at h; cases h
    | some u =>
      rw [hc] at h
      injection h with h
      subst h
      have := clnF_len _ _ _ _ hc
      rw [flat_pieces hp] at this
      simpa [flatL] using this
  · cases h
set_option maxRecDepth 100000 in
set_option maxHeartbeats 8000000 in
theorem dotsCleans_any (p : List UInt8) (w : World) (hM : ML w) :
    Calls Tryd.prog 7 #[.string ⟨p.toArray⟩] w fun e w' => e = .returned (.bool true) ∧ Below w.heap.size w w' := by
  have HM := Lib.hid hM
  clear hM
  by_cases h1 : 300 < p.length
  · have d1 : decide ((300 : Int) < (p.length : Int)) = true := decide_eq_true (by omega)
    have d1n : decide (300 < p.length) = true := decide_eq_true h1
    clear h1
    go_enter Tryd.func7, Tryd.ntmps7
    go_wp2_with fail
    refine (awake_any _ HM.out).mono ?_
    rintro e w1 ⟨rfl, hB⟩
    go_wp2_with fail
    go_ret
    exact ⟨rfl, hB⟩
  · have d1 : decide ((300 : Int) < (p.length : Int)) = false := decide_eq_false (by omega)
    have d1n : decide (300 < p.length) = false := decide_eq_false h1
    have hc1 := fun W => clean_any p (by omega) W
    have hn1 := fun W (h : ML W) => normal_any p (by omega) W h
    cases hR : cleanR p with
    | inl x =>
      have hnb : normB p = false := by
        cases hb : normB p with
        | false => rfl
        | true => rw [clean_norm hb] at hR; cases hR
      have hx : x = 3 ∨ x = 18 := by
        unfold cleanR at hR
        split at hR
        · cases hc : clnF (piecesL p) [] false with
          | none => rw [hc] at hR; injection hR with hR; exact .inr hR.symm
          | some u => rw [hc] at hR; cases hR
        · injection hR with hR; exact .inl hR.symm
      rw [hR] at hc1
      rw [hnb] at hn1
      have C1 := Lib.hid hc1
      have N1 := Lib.hid hn1
      clear hc1 hn1 hR hnb h1
      have hx0 : ((x : Int) != 0) = true := by rw [bne_iff_ne]; omega
      have hx1 : ((x : Int) == 0) = false := by rw [beq_eq_false_iff_ne]; omega
      clear hx
      go_enter Tryd.func7, Tryd.ntmps7
      go_wp2_with fail
      refine (C1.out _).mono ?_
      rintro e w1 ⟨rfl, hB⟩
      unfold strR
      dsimp only
      go_wp2_with fail
      refine (N1.out _ (HM.out.below hB)).mono ?_
      rintro e w2 ⟨rfl, hb⟩
      have hB := hB.trans (hb.mono hB.size)
      clear hb
      go_wp2_with fail
      refine (awake_any _ (HM.out.below hB)).mono ?_
      rintro e w3 ⟨rfl, hb⟩
      have hB := hB.trans (hb.mono hB.size)
      clear hb
      go_wp2_with fail
      go_ret
      exact ⟨rfl, hB⟩
    | inr t =>
      have hlen := clean_len hR
      obtain ⟨hA, hN⟩ := clean_again hR
      have hst : normB p = true → p = t := fun hb => by
        rw [clean_norm hb] at hR
        injection hR
      obtain ⟨nb, hnb⟩ : ∃ b, normB p = b := ⟨_, rfl⟩
      rw [hnb] at hn1 hst
      rw [hR] at hc1
      have hn2 := fun W (h : ML W) => normal_any t (by omega) W h
      rw [hN] at hn2
      have hcl := fun W => lclean_ok t t (by omega) hA W
      have e1 : decide (((t.length : Nat) : Int) ≤ 128) = decide (t.length ≤ 128) := by rw [decide_eq_decide]; omega
      obtain ⟨m, hm⟩ : ∃ m, decide (t.length ≤ 128) = m := ⟨_, rfl⟩
      rw [hm] at hn2 e1
      have e2 : (m == m) = true := by cases m <;> rfl
      have C1 := Lib.hid hc1
      have N1 := Lib.hid hn1
      have N2 := Lib.hid hn2
      have CL := Lib.hid hcl
      have HST := Lib.hid hst
      clear hc1 hn1 hn2 hcl hR hnb h1 hA hN hst hlen
      cases nb with
      | true =>
        obtain rfl : p = t := HST.out rfl
        go_enter Tryd.func7, Tryd.ntmps7
        go_wp2_with fail
        refine (C1.out _).mono ?_
        rintro e w1 ⟨rfl, hB⟩
        unfold strR
        dsimp only
        go_wp2_with fail
        refine (N1.out _ (HM.out.below hB)).mono ?_
        rintro e w2 ⟨rfl, hb⟩
        have hB := hB.trans (hb.mono hB.size)
        clear hb
        go_wp2_with fail
        refine (CL.out _).mono ?_
        rintro e w3 ⟨rfl, hb⟩
        have hB := hB.trans (hb.mono hB.size)
        clear hb
        go_wp2_with fail
        refine (N2.out _ (HM.out.below hB)).mono ?_
        rintro e w4 ⟨rfl, hb⟩
        have hB := hB.trans (hb.mono hB.size)
        clear hb
        go_wp2_with fail
        refine (awake_any _ (HM.out.below hB)).mono ?_
        rintro e w5 ⟨rfl, hb⟩
        have hB := hB.trans (hb.mono hB.size)
        clear hb
        go_wp2_with fail
        go_ret
        exact ⟨rfl, hB⟩
      | false =>
        go_enter Tryd.func7, Tryd.ntmps7
        go_wp2_with fail
        refine (C1.out _).mono ?_
        rintro e w1 ⟨rfl, hB⟩
        unfold strR
        dsimp only
        go_wp2_with fail
        refine (N1.out _ (HM.out.below hB)).mono ?_
        rintro e w2 ⟨rfl, hb⟩
        have hB := hB.trans (hb.mono hB.size)
        clear hb
        go_wp2_with fail
        refine (CL.out _).mono ?_
        rintro e w3 ⟨rfl, hb⟩
        have hB := hB.trans (hb.mono hB.size)
        clear hb
        go_wp2_with fail
        refine (N2.out _ (HM.out.below hB)).mono ?_
        rintro e w4 ⟨rfl, hb⟩
        have hB := hB.trans (hb.mono hB.size)
        clear hb
        go_wp2_with fail
        refine (awake_any _ (HM.out.below hB)).mono ?_
        rintro e w5 ⟨rfl, hb⟩
        have hB := hB.trans (hb.mono hB.size)
        clear hb
        go_wp2_with fail
        go_ret
        exact ⟨rfl, hB⟩
end Go.Proofs.YtkchhgpebleioaaDoor
