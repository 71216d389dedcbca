/-
  The reference's Parent, Join and Make, for texts shorter than 50000 bytes and lists shorter than 50000.
-/
import Derived.Test.YtkchhgpebleioaaDoorDRef5
namespace Go.Proofs.YtkchhgpebleioaaDoor
open Go.RowKit
theorem join_name {d s : List UInt8} (h : normB d = true) : (segsL d ++ [s]).all nameB = nameB s := by
  rw [List.all_append, names_all.2 (segs_names h)]
  simp
theorem dir_norm {d : List UInt8} (h : dirB d = true) : normB d = true := by
  unfold dirB at h
  rw [Bool.and_eq_true] at h
  exact h.1
theorem put_len {L : List (List UInt8)} {o : Bool} {n : Nat} (h : ∀ x ∈ L, x.length ≤ n) : (putL L o).length ≤ L.length * (n + 1) + 1 := by
  unfold putL
  have := flat_len L n h
  rw [List.length_append]
  split
  · simp; omega
  · simp; omega
set_option maxRecDepth 100000 in
set_option maxHeartbeats 4000000 in
theorem refParent_any (p : List UInt8) (hl : p.length < 49000) (w : World) :
    Calls Tryd.prog 28 #[.string ⟨p.toArray⟩] w fun e w' => e = .returned (strR (parentR p)) ∧ Below w.heap.size w w' := by
  obtain ⟨q, hq⟩ : ∃ q, normB p = q := ⟨_, rfl⟩
  have hseg := fun W => refSegments_any p (by omega) W
  have hR : parentR p = if q then (if segsL p = [] then .inl 6 else .inr (putL (segsL p).dropLast false)) else .inl 3 := by unfold parentR; rw [hq]
  have hS : segsR p = if q then .inr (segsL p) else .inl 3 := by unfold segsR; rw [hq]
  have hlen := segs_len p
  have hmem := fun (x : List UInt8) (h : x ∈ segsL p) => segs_mem h
  cases q
  · rw [hS] at hseg
    have HSEG := Lib.hid hseg
    have HR : Hid (parentR p = .inl 3) := Lib.hid hR
    clear hq hR hS hseg hmem
    go_enter Tryd.func28, Tryd.ntmps28
    go_wp2_with fail
    refine (HSEG.out _).mono ?_
    rintro e w1 ⟨hp, hB⟩
    obtain rfl : e = .returned (.tuple #[.slice none 0 0, .int .i64 3]) := hp
    go_wp2_with fail
    go_ret2
    exact ⟨by rw [HR.out]; rfl, hB⟩
  · rw [hS] at hseg
    obtain ⟨L, hL⟩ : ∃ L, segsL p = L := ⟨_, rfl⟩
    rw [hL] at hseg hR hlen hmem
    have HSEG := Lib.hid hseg
    have HMEM := Lib.hid hmem
    clear hq hS hseg hL hmem
    by_cases h0 : L = []
    · subst h0
      have HR : Hid (parentR p = .inl 6) := Lib.hid hR
      clear hR
      go_enter Tryd.func28, Tryd.ntmps28
      go_wp2_with fail
      refine (HSEG.out _).mono ?_
      rintro e w1 ⟨⟨v, rfl, hrow⟩, hB⟩
      obtain ⟨ov, oc, rfl⟩ := own_slice hrow
      go_wp2_with fail
      go_ret2
      exact ⟨by rw [HR.out]; rfl, hB⟩
    · have HR : Hid (parentR p = .inr (putL L.dropLast false)) := Lib.hid (by rw [hR, if_pos rfl, if_neg h0])
      obtain ⟨n, hn⟩ : ∃ n, L.length = n + 1 := ⟨L.length - 1, by have : L.length ≠ 0 := fun e => h0 (List.eq_nil_of_length_eq_zero e); omega⟩
      have q1 : IntKind.i64.wrap ((L.length : Int) - 1) = (n : Int) := by rw [IntKind.wrap_i64]; omega
      have q2 : (L.length : Int) - 1 = (n : Int) := by omega
      have q3 : ((L.length : Int) == 0) = false := by rw [beq_eq_false_iff_ne]; omega
      have q6 : (0 : Int) ≤ (n : Int) := by omega
      have q7 : L.length - 1 = n := by omega
      have HN := Lib.hid hn
      clear hR h0 hn
      go_enter Tryd.func28, Tryd.ntmps28
      go_wp2_with fail
      refine (HSEG.out _).mono ?_
      rintro e w1 ⟨⟨v, rfl, hrow⟩, hB⟩
      obtain ⟨g, cap, rfl, hcap, hrow2⟩ := own_pop hrow HN.out
      have q4 : (n : Int) ≤ (cap : Int) := by omega
      have q5 : n ≤ cap := by omega
      have hst := strs_of_own hrow2
      rw [List.length_dropLast, q7] at hrow2
      have hv : ∃ pp c, (Value.slice (some ⟨g, 0, none⟩) n cap) = .slice pp L.dropLast.length c := by rw [List.length_dropLast, q7]; exact ⟨_, _, rfl⟩
      have hput := refPut_any L.dropLast false (by rw [List.length_dropLast]; omega) (fun x hx => by have := HMEM.out x (List.dropLast_subset L hx); omega) _ w1 hst
      have HPUT := Lib.hid hput
      clear hrow hrow2 hst hput hv
      go_wp2_with fail
      refine HPUT.out.mono ?_
      rintro e w' ⟨rfl, rfl⟩
      go_wp2_with fail
      go_ret2
      exact ⟨by rw [HR.out]; rfl, hB⟩
set_option maxRecDepth 100000 in
set_option maxHeartbeats 4000000 in
theorem refJoin_any (d s : List UInt8) (hd : d.length < 49000) (hs : s.length < 49000) (w : World) :
    Calls Tryd.prog 30 #[.string ⟨d.toArray⟩, .string ⟨s.toArray⟩] w fun e w' => e = .returned (strR (joinR d s)) ∧ Below w.heap.size w w' := by
  obtain ⟨i0, hi, hz0, hz1, hz2⟩ := info_parts infoS4
  obtain ⟨q, hq⟩ : ∃ q, dirB d = q := ⟨_, rfl⟩
  have HQ := Lib.hid hq
  cases q
  · have HR : Hid (joinR d s = .inl 3) := Lib.hid (by unfold joinR; rw [hq]; rfl)
    clear hq
    go_enter Tryd.func30, Tryd.ntmps30
    go_wp2_with fail
    refine (refDir_any d (by omega) _).mono ?_
    rintro e w1 ⟨rfl, hB⟩
    rw [HQ.out]
    go_wp2_with fail
    go_ret2
    exact ⟨by rw [HR.out]; rfl, hB⟩
  · have hn := dir_norm hq
    have hR : joinR d s = if nameB s then (if 128 < (putL (segsL d ++ [s]) false).length then .inl 4 else .inr (putL (segsL d ++ [s]) false)) else .inl 3 := by
      unfold joinR makeR
      rw [hq, if_pos rfl, join_name hn]
    have hseg := fun W => refSegments_any d (by omega) W
    rw [show segsR d = .inr (segsL d) by unfold segsR; rw [hn]; rfl] at hseg
    have hlen := segs_len d
    have hmem := fun (x : List UInt8) (h : x ∈ segsL d) => segs_mem h
    obtain ⟨L, hL⟩ : ∃ L, segsL d = L := ⟨_, rfl⟩
    rw [hL] at hseg hR hlen hmem
    obtain ⟨m, hm⟩ : ∃ m, nameB s = m := ⟨_, rfl⟩
    have HM := Lib.hid hm
    rw [hm] at hR
    have HSEG := Lib.hid hseg
    have HMEM := Lib.hid hmem
    clear hq hn hseg hL hm hmem
    cases m
    · have HR : Hid (joinR d s = .inl 3) := Lib.hid hR
      clear hR
      go_enter Tryd.func30, Tryd.ntmps30
      go_wp2_with fail
      refine (refDir_any d (by omega) _).mono ?_
      rintro e w1 ⟨rfl, hB⟩
      rw [HQ.out]
      go_wp2_with fail
      refine (refName_any s (by omega) _).mono ?_
      rintro e w' ⟨rfl, rfl⟩
      rw [HM.out]
      go_wp2_with fail
      go_ret2
      exact ⟨by rw [HR.out]; rfl, hB⟩
    · have hpl := put_len (L := L ++ [s]) (o := false) (n := 49000) (fun x hx => by
        rcases List.mem_append.1 hx with hx | hx
        · have := HMEM.out x hx; omega
        · rw [List.mem_singleton.1 hx]; omega)
      have hpl2 : (putL (L ++ [s]) false).length < 4000000000 := by
        rw [List.length_append, List.length_singleton] at hpl
        omega
      obtain ⟨T, hT⟩ : ∃ T, putL (L ++ [s]) false = T := ⟨_, rfl⟩
      have HT := Lib.hid hT
      have HR : Hid (joinR d s = if 128 < T.length then .inl 4 else .inr T) := Lib.hid (by rw [← hT]; exact hR)
      rw [hT] at hpl2
      clear hR hpl hT
      go_enter Tryd.func30, Tryd.ntmps30
      go_wp2_with fail
      refine (refDir_any d (by omega) _).mono ?_
      rintro e w1 ⟨rfl, hB⟩
      rw [HQ.out]
      go_wp2_with fail
      refine (refName_any s (by omega) _).mono ?_
      rintro e w' ⟨rfl, rfl⟩
      rw [HM.out]
      go_wp2_with fail
      refine (HSEG.out _).mono ?_
      rintro e w2 ⟨⟨v, rfl, hrow⟩, hB2⟩
      have hs1 := hB.size
      have hB := hB.trans (hB2.mono hB.size)
      have hsz := hB2.size
      obtain ⟨ov, oc, rfl⟩ := own_slice hrow
      have hone : w1.heap.size ≤ (w2.alloc (.cells #[.string ⟨s.toArray⟩] 9)).heap.size := by simp; omega
      have hB3 := hB.alloc hB.size (.cells #[.string ⟨s.toArray⟩] 9)
      clear hB2
      go_wp2_with (at_builtin; refine wpList_append_own _ rfl _ _ 26 rfl w1.heap.size 9 i0 (.string ⟨#[]⟩) 1 16 Tryd.underlying26 hi hz0 hz1 hz2 rfl (by decide) _ _ _ rfl (hrow.alloc _) ⟨w2.heap.size, 0, none⟩ 1 1 [strW s] rfl rfl (cell_one_new _ _ _) (by simp [Value.oneCell', strW]) (by unfold maxLen; omega) (by omega) hone ?_; intro v' w3 hown' hgrow _)
      have hown2 : w3.ownsRow w1.heap.size 9 1 v' (L ++ [s]).length ((L ++ [s]).map strW) := by rw [List.map_append, List.length_append]; exact hown'
      have hB4 := below_grownR hB3 hB3.size hgrow (fun r hr => Nat.le_trans hs1 (hrow.lt r hr).1)
      refine (refPut_any (L ++ [s]) false (by simp; omega) (fun x hx => by
        rcases List.mem_append.1 hx with hx | hx
        · have := HMEM.out x hx; omega
        · rw [List.mem_singleton.1 hx]; omega) _ w3 (strs_of_own hown2)).mono ?_
      rintro e w' ⟨rfl, rfl⟩
      rw [HT.out]
      have HB4 := Lib.hid hB4
      clear hown' hown2 hB4 hB3 hB hgrow hrow
      by_cases h1 : 128 < T.length
      · have d1 : decide ((128 : Int) < (T.length : Int)) = true := decide_eq_true (by omega)
        have d1n : decide (128 < T.length) = true := decide_eq_true h1
        have HR2 : Hid (joinR d s = .inl 4) := Lib.hid (by rw [HR.out, if_pos h1])
        clear h1
        go_wp2_with fail
        go_ret2
        exact ⟨by rw [HR2.out]; rfl, HB4.out⟩
      · have d1 : decide ((128 : Int) < (T.length : Int)) = false := decide_eq_false (by omega)
        have d1n : decide (128 < T.length) = false := decide_eq_false h1
        have HR2 : Hid (joinR d s = .inr T) := Lib.hid (by rw [HR.out, if_neg h1])
        clear h1
        go_wp2_with fail
        go_ret2
        exact ⟨by rw [HR2.out]; rfl, HB4.out⟩
set_option maxRecDepth 100000 in
set_option maxHeartbeats 4000000 in
theorem refMake_any (L : List (List UInt8)) (o : Bool) (hn : L.length < 49000) (hL : ∀ x ∈ L, x.length < 49000) (v : Value) (w : World) (hv : StrsAt w v L) :
    Calls Tryd.prog 34 #[v, .bool o] w fun e w' => e = .returned (strR (makeR L o)) ∧ w = w' := by
  have hpl := put_len (L := L) (o := o) (n := 49000) (fun x hx => Nat.le_of_lt (hL x hx))
  have hpl2 : (putL L o).length < 4000000000 := by
    have : L.length * (49000 + 1) ≤ 49000 * 49001 := Nat.mul_le_mul (by omega) (by omega)
    omega
  have HPUT := Lib.hid (fun w (hv : StrsAt w v L) => refPut_any L o (by omega) (fun x hx => by have := hL x hx; omega) v w hv)
  obtain ⟨T, hT⟩ : ∃ T, putL L o = T := ⟨_, rfl⟩
  rw [hT] at hpl2 HPUT
  have hR : makeR L o = if L.all nameB then (if 128 < T.length then .inl 4 else .inr T) else .inl 3 := by unfold makeR; rw [hT]
  obtain ⟨p, c, rfl, hC⟩ := id hv
  have HC := Lib.hid hC
  have HL := Lib.hid hL
  have HV := Lib.hid hv
  have HR := Lib.hid hR
  have H0 : Hid ((L.drop 0).all nameB = L.all nameB) := Lib.hid rfl
  clear hC hL hv hR hT hpl
  go_enter Tryd.func34, Tryd.ntmps34
  go_wp2_with fail
  go_loopw [6] (fun i wr => ∃ k : Nat, k ≤ L.length ∧ i = .int .i64 k ∧ Hid ((L.drop k).all nameB = L.all nameB) ∧ wr = w) (fun i _ => L.length - (intOf i).toNat)
  case atStart => exact ⟨0, Nat.zero_le _, rfl, H0, rfl⟩
  case round =>
    obtain ⟨k, hk, rfl, hst, rfl⟩ := hrel
    by_cases hlt : k < L.length
    · have h1 : decide ((k : Int) < (L.length : Int)) = true := decide_eq_true (by omega)
      have hb2 : (k : Int) < (L.length : Int) := by omega
      obtain ⟨b, off, rfl, hbl, hcell⟩ := str_cell HC.out (Below.refl _ _) hlt
      have hxl := HL.out _ (List.getElem_mem hlt)
      have hat : (L.drop k).all nameB = (nameB L[k] && (L.drop (k + 1)).all nameB) := by rw [List.drop_eq_getElem_cons hlt, List.all_cons]
      obtain ⟨x, hx⟩ : ∃ x, L[k] = x := ⟨_, rfl⟩
      rw [hx] at hat hxl hcell
      rw [hst.out] at hat
      obtain ⟨q, hq⟩ : ∃ q, nameB x = q := ⟨_, rfl⟩
      have HQ := Lib.hid hq
      rw [hq] at hat
      have HAT := Lib.hid hat
      clear hx hq hat
      cases q
      · have hbad : Hid (makeR L o = .inl 3) := Lib.hid (by rw [HR.out, HAT.out]; rfl)
        go_wp2_with fail
        refine (refName_any x (by omega) _).mono ?_
        rintro e w' ⟨rfl, rfl⟩
        rw [HQ.out]
        go_wp2_with fail
        go_ret2
        exact ⟨by rw [hbad.out]; rfl, rfl⟩
      · have hnext : Hid ((L.drop (k + 1)).all nameB = L.all nameB) := Lib.hid (by rw [HAT.out]; rfl)
        go_wp2_with fail
        refine (refName_any x (by omega) _).mono ?_
        rintro e w' ⟨rfl, rfl⟩
        rw [HQ.out]
        go_wp2_with fail
        go_roundw
        case rel => exact ⟨k + 1, by omega, by go_num, hnext, trivial⟩
        case measure => simp [intOf]; omega
    · have h1 : decide ((k : Int) < (L.length : Int)) = false := decide_eq_false (by omega)
      have hall : L.all nameB = true := by rw [← hst.out, List.drop_eq_nil_of_le (by omega)]; rfl
      have HR2 : Hid (makeR L o = if 128 < T.length then .inl 4 else .inr T) := Lib.hid (by rw [HR.out, if_pos hall])
      clear hall
      by_cases h1 : 128 < T.length
      · have d1 : decide ((128 : Int) < (T.length : Int)) = true := decide_eq_true (by omega)
        have d1n : decide (128 < T.length) = true := decide_eq_true h1
        have HR3 : Hid (makeR L o = .inl 4) := Lib.hid (by rw [HR2.out, if_pos h1])
        clear h1
        go_wp2_with fail
        refine (HPUT.out _ HV.out).mono ?_
        rintro e w' ⟨rfl, rfl⟩
        go_wp2_with fail
        go_ret2
        exact ⟨by rw [HR3.out]; rfl, rfl⟩
      · have d1 : decide ((128 : Int) < (T.length : Int)) = false := decide_eq_false (by omega)
        have d1n : decide (128 < T.length) = false := decide_eq_false h1
        have HR3 : Hid (makeR L o = .inr T) := Lib.hid (by rw [HR2.out, if_neg h1])
        clear h1
        go_wp2_with fail
        refine (HPUT.out _ HV.out).mono ?_
        rintro e w' ⟨rfl, rfl⟩
        go_wp2_with fail
        go_ret2
        exact ⟨by rw [HR3.out]; rfl, rfl⟩
end Go.Proofs.YtkchhgpebleioaaDoor
