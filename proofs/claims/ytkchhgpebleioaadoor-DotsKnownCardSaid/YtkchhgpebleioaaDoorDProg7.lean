/-
  The program's isDir, Segments, Under, Parent, Join and Common, for texts shorter than 40000 bytes. The library's variable of the search must hold a number.
-/
import Derived.Test.YtkchhgpebleioaaDoorDProg6
import Derived.Test.YtkchhgpebleioaaDoorDRef7
namespace Go.Proofs.YtkchhgpebleioaaDoor
open Go.RowKit
set_option maxHeartbeats 2000000 in
theorem isDir_any (p : List UInt8) (hl : p.length < 40000) (w : World) (hM : ML w) :
    Calls Tryd.prog 43 #[.string ⟨p.toArray⟩] w fun e w' => e = .returned (.bool (dirB p)) ∧ Below w.heap.size w w' := by
  obtain ⟨q, hq⟩ : ∃ q, normB p = q := ⟨_, rfl⟩
  have HQ := Lib.hid hq
  have HM := Lib.hid hM
  have hR : dirB p = (q && (p == [47] || !openB p)) := by unfold dirB; rw [hq]
  clear hM
  cases q
  · have HR : Hid (dirB p = false) := Lib.hid hR
    clear hq hR
    go_enter Tryd.func43, Tryd.ntmps43
    go_wp2_with fail
    refine (normal_any p (by omega) _ HM.out).mono ?_
    rintro e w1 ⟨rfl, hB⟩
    rw [HQ.out]
    go_wp2_with fail
    go_ret
    exact ⟨by rw [HR.out]; rfl, hB⟩
  · have HOP := Lib.hid (fun W => isOpen_any p (by omega) W)
    obtain ⟨e1, he1⟩ : ∃ b, (p == [47]) = b := ⟨_, rfl⟩
    obtain ⟨o, ho⟩ : ∃ o, openB p = o := ⟨_, rfl⟩
    have HO := Lib.hid ho
    have HR : Hid (dirB p = (e1 || !o)) := Lib.hid (by rw [hR, he1, ho]; rfl)
    clear hq hR ho
    cases e1
    · go_enter Tryd.func43, Tryd.ntmps43
      go_wp2_with fail
      refine (normal_any p (by omega) _ HM.out).mono ?_
      rintro e w1 ⟨rfl, hB⟩
      rw [HQ.out]
      go_wp2_with fail
      refine (HOP.out _).mono ?_
      rintro e w' ⟨rfl, rfl⟩
      rw [HO.out]
      go_wp2_with fail
      go_ret
      exact ⟨by rw [HR.out]; rfl, hB⟩
    · go_enter Tryd.func43, Tryd.ntmps43
      go_wp2_with fail
      refine (normal_any p (by omega) _ HM.out).mono ?_
      rintro e w1 ⟨rfl, hB⟩
      rw [HQ.out]
      go_wp2_with fail
      go_ret
      exact ⟨by rw [HR.out]; rfl, hB⟩
set_option maxHeartbeats 2000000 in
theorem segs_any (p : List UInt8) (hl : p.length < 40000) (w : World) (hM : ML w) :
    Calls Tryd.prog 12 #[.string ⟨p.toArray⟩] w fun e w' => ListPost w.heap.size (segsR p) e w' ∧ Below w.heap.size w w' := by
  obtain ⟨q, hq⟩ : ∃ q, normB p = q := ⟨_, rfl⟩
  have HQ := Lib.hid hq
  have HM := Lib.hid hM
  clear hM
  cases q
  · have HR : Hid (segsR p = .inl 3) := Lib.hid (by unfold segsR; rw [hq]; rfl)
    clear hq
    go_enter Tryd.func12, Tryd.ntmps12
    go_wp2_with fail
    refine (normal_any p (by omega) _ HM.out).mono ?_
    rintro e w1 ⟨rfl, hB⟩
    rw [HQ.out]
    go_wp2_with fail
    go_ret2
    exact ⟨by rw [HR.out]; rfl, hB⟩
  · have hp0 := norm_pos hq
    have HR : Hid (segsR p = .inr (segsL p)) := Lib.hid (by unfold segsR; rw [hq]; rfl)
    have HS := Lib.hid (fun W => segments_any p hp0 (by omega) W)
    clear hq hp0
    go_enter Tryd.func12, Tryd.ntmps12
    go_wp2_with fail
    refine (normal_any p (by omega) _ HM.out).mono ?_
    rintro e w1 ⟨rfl, hB⟩
    rw [HQ.out]
    go_wp2_with fail
    refine (HS.out _).mono ?_
    rintro e w2 ⟨v, rfl, hrow, hB2⟩
    have hs := hB.size
    have hB := hB.trans (hB2.mono hB.size)
    go_wp2_with fail
    go_ret2
    rw [HR.out]
    exact ⟨⟨v, rfl, own_mono hrow hs⟩, hB⟩
theorem under_is (p d : List UInt8) (r : List UInt8) (hr : p.drop d.length = r) : (d.isPrefixOf p && (r.isEmpty || pathB r)) = (p == d || (d ++ [47]).isPrefixOf p) := by
  subst hr
  rw [Bool.eq_iff_iff, Bool.and_eq_true, Bool.or_eq_true, Bool.or_eq_true, beq_iff_eq, List.isPrefixOf_iff_prefix, List.isPrefixOf_iff_prefix]
  constructor
  · rintro ⟨⟨t, rfl⟩, h⟩
    rw [List.drop_left] at h
    rcases h with h | h
    · left
      rw [List.isEmpty_iff.1 h, List.append_nil]
    · right
      cases t with
      | nil => simp [pathB] at h
      | cons c r =>
        have hc : c = 47 := UInt8.toNat_inj.1 (by simpa [pathB] using h)
        subst hc
        exact ⟨r, by simp⟩
  · rintro (rfl | ⟨t, rfl⟩)
    · exact ⟨List.prefix_refl _, .inl (by simp)⟩
    · refine ⟨⟨47 :: t, by simp⟩, .inr ?_⟩
      rw [List.append_assoc, List.drop_left]
      rfl
set_option maxRecDepth 100000 in
set_option maxHeartbeats 4000000 in
theorem under_any (p d : List UInt8) (hl : p.length < 40000) (hd : d.length < 40000) (w : World) (hM : ML w) :
    Calls Tryd.prog 15 #[.string ⟨p.toArray⟩, .string ⟨d.toArray⟩] w fun e w' => e = .returned (underR p d) ∧ Below w.heap.size w w' := by
  obtain ⟨q, hq⟩ : ∃ q, normB p = q := ⟨_, rfl⟩
  obtain ⟨r, hr⟩ : ∃ r, dirB d = r := ⟨_, rfl⟩
  have HQ := Lib.hid hq
  have HD := Lib.hid hr
  have HM := Lib.hid hM
  have hR : underR p d = if q && r then .tuple #[.bool (underB p d), .int .i64 0] else .tuple #[.bool false, .int .i64 3] := by unfold underR; rw [hq, hr]
  clear hq hr hM
  cases q with
  | false =>
    have HR : Hid (underR p d = .tuple #[.bool false, .int .i64 3]) := Lib.hid hR
    clear hR
    go_enter Tryd.func15, Tryd.ntmps15
    go_wp2_with fail
    refine (normal_any p (by omega) _ HM.out).mono ?_
    rintro e w1 ⟨rfl, hB⟩
    rw [HQ.out]
    go_wp2_with fail
    go_ret2
    exact ⟨by rw [HR.out]; rfl, hB⟩
  | true =>
    cases r with
    | false =>
      have HR : Hid (underR p d = .tuple #[.bool false, .int .i64 3]) := Lib.hid hR
      clear hR
      go_enter Tryd.func15, Tryd.ntmps15
      go_wp2_with fail
      refine (normal_any p (by omega) _ HM.out).mono ?_
      rintro e w1 ⟨rfl, hB⟩
      rw [HQ.out]
      go_wp2_with fail
      refine (isDir_any d hd _ (HM.out.below hB)).mono ?_
      rintro e w2 ⟨rfl, hb⟩
      have hB := hB.trans (hb.mono hB.size)
      clear hb
      rw [HD.out]
      go_wp2_with fail
      go_ret2
      exact ⟨by rw [HR.out]; rfl, hB⟩
    | true =>
      obtain ⟨e1, he1⟩ : ∃ b, (d == [47]) = b := ⟨_, rfl⟩
      obtain ⟨i, hi⟩ : ∃ b, d.isPrefixOf p = b := ⟨_, rfl⟩
      have hU : underB p d = (e1 || (i && ((p.drop d.length).isEmpty || pathB (p.drop d.length)))) := by
        unfold underB
        rw [he1, Bool.or_assoc, ← under_is p d _ rfl, hi]
      have hcut := fun W => cutPrefix_any p d W
      rw [hi] at hcut
      cases i with
      | false =>
        have HR : Hid (underR p d = .tuple #[.bool e1, .int .i64 0]) := Lib.hid (by rw [hR, hU]; simp)
        have HCUT := Lib.hid hcut
        clear hR hU hcut hi
        cases e1 <;>
        · go_enter Tryd.func15, Tryd.ntmps15
          go_wp2_with fail
          refine (normal_any p (by omega) _ HM.out).mono ?_
          rintro e w1 ⟨rfl, hB⟩
          rw [HQ.out]
          go_wp2_with fail
          refine (isDir_any d hd _ (HM.out.below hB)).mono ?_
          rintro e w2 ⟨rfl, hb⟩
          have hB := hB.trans (hb.mono hB.size)
          clear hb
          rw [HD.out]
          go_wp2_with fail
          refine (HCUT.out _).mono ?_
          rintro e w' ⟨rfl, rfl⟩
          rw [if_neg (by simp)]
          go_wp2_with fail
          go_ret2
          exact ⟨by rw [HR.out]; rfl, hB⟩
      | true =>
        obtain ⟨X, hX⟩ : ∃ X, p.drop d.length = X := ⟨_, rfl⟩
        rw [hX] at hU
        simp only [hX, ↓reduceIte] at hcut
        obtain ⟨a, ha⟩ : ∃ a, X.isEmpty = a := ⟨_, rfl⟩
        obtain ⟨c, hc⟩ : ∃ c, pathB X = c := ⟨_, rfl⟩
        rw [ha, hc] at hU
        have HP := Lib.hid hc
        have HR : Hid (underR p d = .tuple #[.bool (e1 || (a || c)), .int .i64 0]) := Lib.hid (by rw [hR, hU]; simp)
        have HCUT := Lib.hid hcut
        clear hR hU hcut hi hX hc
        cases e1 with
        | true =>
          go_enter Tryd.func15, Tryd.ntmps15
          go_wp2_with fail
          refine (normal_any p (by omega) _ HM.out).mono ?_
          rintro e w1 ⟨rfl, hB⟩
          rw [HQ.out]
          go_wp2_with fail
          refine (isDir_any d hd _ (HM.out.below hB)).mono ?_
          rintro e w2 ⟨rfl, hb⟩
          have hB := hB.trans (hb.mono hB.size)
          clear hb
          rw [HD.out]
          go_wp2_with fail
          refine (HCUT.out _).mono ?_
          rintro e w' ⟨rfl, rfl⟩
          go_wp2_with fail
          go_ret2
          exact ⟨by rw [HR.out]; rfl, hB⟩
        | false =>
          cases a with
          | true =>
            go_enter Tryd.func15, Tryd.ntmps15
            go_wp2_with fail
            refine (normal_any p (by omega) _ HM.out).mono ?_
            rintro e w1 ⟨rfl, hB⟩
            rw [HQ.out]
            go_wp2_with fail
            refine (isDir_any d hd _ (HM.out.below hB)).mono ?_
            rintro e w2 ⟨rfl, hb⟩
            have hB := hB.trans (hb.mono hB.size)
            clear hb
            rw [HD.out]
            go_wp2_with fail
            refine (HCUT.out _).mono ?_
            rintro e w' ⟨rfl, rfl⟩
            go_wp2_with fail
            go_ret2
            exact ⟨by rw [HR.out]; rfl, hB⟩
          | false =>
            go_enter Tryd.func15, Tryd.ntmps15
            go_wp2_with fail
            refine (normal_any p (by omega) _ HM.out).mono ?_
            rintro e w1 ⟨rfl, hB⟩
            rw [HQ.out]
            go_wp2_with fail
            refine (isDir_any d hd _ (HM.out.below hB)).mono ?_
            rintro e w2 ⟨rfl, hb⟩
            have hB := hB.trans (hb.mono hB.size)
            clear hb
            rw [HD.out]
            go_wp2_with fail
            refine (HCUT.out _).mono ?_
            rintro e w' ⟨rfl, rfl⟩
            go_wp2_with fail
            refine (isPath_any X _).mono ?_
            rintro e w' ⟨rfl, rfl⟩
            rw [HP.out]
            cases c <;>
            · go_wp2_with fail
              go_ret2
              exact ⟨by rw [HR.out]; rfl, hB⟩
set_option maxRecDepth 100000 in
set_option maxHeartbeats 4000000 in
theorem parent_any (p : List UInt8) (hl : p.length < 40000) (w : World) (hM : ML w) :
    Calls Tryd.prog 16 #[.string ⟨p.toArray⟩] w fun e w' => e = .returned (strR (parentR p)) ∧ Below w.heap.size w w' := by
  obtain ⟨q, hq⟩ : ∃ q, normB p = q := ⟨_, rfl⟩
  have HQ := Lib.hid hq
  have HM := Lib.hid hM
  have hR : parentR p = if q then (if segsL p = [] then .inl 6 else .inr (putL (segsL p).dropLast false)) else .inl 3 := by unfold parentR; rw [hq]
  have hlen := segs_len p
  have hmem := fun (x : List UInt8) (h : x ∈ segsL p) => segs_mem h
  clear hM
  cases q
  · have HR : Hid (parentR p = .inl 3) := Lib.hid hR
    clear hq hR hmem
    go_enter Tryd.func16, Tryd.ntmps16
    go_wp2_with fail
    refine (normal_any p (by omega) _ HM.out).mono ?_
    rintro e w1 ⟨rfl, hB⟩
    rw [HQ.out]
    go_wp2_with fail
    go_ret2
    exact ⟨by rw [HR.out]; rfl, hB⟩
  · have hseg := fun W => segments_any p (norm_pos hq) (by omega) W
    obtain ⟨L, hL⟩ : ∃ L, segsL p = L := ⟨_, rfl⟩
    rw [hL] at hR hlen hmem hseg
    have HSEG := Lib.hid hseg
    have HMEM := Lib.hid hmem
    clear hq hseg hL hmem
    by_cases h0 : L = []
    · subst h0
      have HR : Hid (parentR p = .inl 6) := Lib.hid hR
      clear hR
      go_enter Tryd.func16, Tryd.ntmps16
      go_wp2_with fail
      refine (normal_any p (by omega) _ HM.out).mono ?_
      rintro e w1 ⟨rfl, hB⟩
      rw [HQ.out]
      go_wp2_with fail
      refine (HSEG.out _).mono ?_
      rintro e w2 ⟨v, rfl, hrow, hB2⟩
      have hB := hB.trans (hB2.mono hB.size)
      obtain ⟨ov, oc, rfl⟩ := own_slice hrow
      go_wp2_with fail
      go_ret2
      exact ⟨by rw [HR.out]; rfl, hB⟩
    · have HR : Hid (parentR p = .inr (putL L.dropLast false)) := Lib.hid (by rw [hR, if_pos rfl, if_neg h0])
      obtain ⟨n, hn⟩ : ∃ n, L.length = n + 1 := ⟨L.length - 1, by have : L.length ≠ 0 := fun e => h0 (List.eq_nil_of_length_eq_zero e); omega⟩
      have q3 : ((L.length : Int) == 0) = false := by rw [beq_eq_false_iff_ne]; omega
      have HN := Lib.hid hn
      clear hR h0 hn
      go_enter Tryd.func16, Tryd.ntmps16
      go_wp2_with fail
      refine (normal_any p (by omega) _ HM.out).mono ?_
      rintro e w1 ⟨rfl, hB⟩
      rw [HQ.out]
      go_wp2_with fail
      refine (HSEG.out _).mono ?_
      rintro e w2 ⟨v, rfl, hrow, hB2⟩
      have hB := hB.trans (hB2.mono hB.size)
      clear hB2
      obtain ⟨g, cap, rfl, hcap, hrow2⟩ := own_pop hrow HN.out
      have hst := strs_of_own hrow2
      have HPUT := Lib.hid (build_any L.dropLast false (by rw [List.length_dropLast]; omega) (fun x hx => by have := HMEM.out x (List.dropLast_subset L hx); omega) _ w2 hst)
      have HWT := Lib.hid (fun W => withoutTop_any (some ⟨g, 0, none⟩) n L.length cap HN.out (by have := HN.out; omega) (by omega) (by simp) W)
      clear hrow hrow2 hst
      go_wp2_with fail
      refine (HWT.out _).mono ?_
      rintro e w' ⟨rfl, rfl⟩
      go_wp2_with fail
      refine HPUT.out.mono ?_
      rintro e w3 ⟨rfl, hB2⟩
      have hB := hB.trans (hB2.mono hB.size)
      go_wp2_with fail
      go_ret2
      exact ⟨by rw [HR.out]; rfl, hB⟩
set_option maxRecDepth 100000 in
set_option maxHeartbeats 4000000 in
theorem join_any (d s : List UInt8) (hd : d.length < 40000) (hs : s.length < 40000) (w : World) (hM : ML w) :
    Calls Tryd.prog 17 #[.string ⟨d.toArray⟩, .string ⟨s.toArray⟩] w fun e w' => e = .returned (strR (joinR d s)) ∧ Below w.heap.size w w' := by
  obtain ⟨i0, hi, hz0, hz1, hz2⟩ := info_parts infoS4
  obtain ⟨q, hq⟩ : ∃ q, dirB d = q := ⟨_, rfl⟩
  have HQ := Lib.hid hq
  have HM := Lib.hid hM
  clear hM
  cases q
  · have HR : Hid (joinR d s = .inl 3) := Lib.hid (by unfold joinR; rw [hq]; rfl)
    clear hq
    go_enter Tryd.func17, Tryd.ntmps17
    go_wp2_with fail
    refine (isDir_any d (by omega) _ HM.out).mono ?_
    rintro e w1 ⟨rfl, hB⟩
    rw [HQ.out]
    go_wp2_with fail
    go_ret2
    exact ⟨by rw [HR.out]; rfl, hB⟩
  · have hR : joinR d s = makeR (segsL d ++ [s]) false := by
      unfold joinR
      rw [hq, if_pos rfl]
    have hseg := fun W => segments_any d (norm_pos (dir_norm hq)) (by omega) W
    have hlen := segs_len d
    have hmem := fun (x : List UInt8) (h : x ∈ segsL d) => segs_mem h
    obtain ⟨L, hL⟩ : ∃ L, segsL d = L := ⟨_, rfl⟩
    rw [hL] at hseg hR hlen hmem
    have HSEG := Lib.hid hseg
    have HMEM := Lib.hid hmem
    have HR := Lib.hid hR
    clear hq hseg hL hmem hR
    go_enter Tryd.func17, Tryd.ntmps17
    go_wp2_with fail
    refine (isDir_any d (by omega) _ HM.out).mono ?_
    rintro e w1 ⟨rfl, hB⟩
    rw [HQ.out]
    go_wp2_with fail
    refine (HSEG.out _).mono ?_
    rintro e w2 ⟨v, rfl, hrow, hB2⟩
    have hs1 := hB.size
    have hB := hB.trans (hB2.mono hB.size)
    have hsz := hB2.size
    obtain ⟨ov, oc, rfl⟩ := own_slice hrow
    have hone : w1.heap.size ≤ (w2.alloc (.cells #[.string ⟨s.toArray⟩] 9)).heap.size := by simp; omega
    have hB3 := hB.alloc hB.size (.cells #[.string ⟨s.toArray⟩] 9)
    clear hB2
    go_wp2_with (at_builtin; refine wpList_append_own _ rfl _ _ 26 rfl w1.heap.size 9 i0 (.string ⟨#[]⟩) 1 16 Tryd.underlying26 hi hz0 hz1 hz2 rfl (by decide) _ _ _ rfl (hrow.alloc _) ⟨w2.heap.size, 0, none⟩ 1 1 [strW s] rfl rfl (cell_one_new _ _ _) (by simp [Value.oneCell', strW]) (by unfold maxLen; omega) (by omega) hone ?_; intro v' w3 hown' hgrow _)
    have hown2 : w3.ownsRow w1.heap.size 9 1 v' (L ++ [s]).length ((L ++ [s]).map strW) := by rw [List.map_append, List.length_append]; exact hown'
    have hB4 := below_grownR hB3 hB3.size hgrow (fun r hr => Nat.le_trans hs1 (hrow.lt r hr).1)
    refine (make_any (L ++ [s]) false (by simp; omega) (fun x hx => by
      rcases List.mem_append.1 hx with hx | hx
      · have := HMEM.out x hx; omega
      · rw [List.mem_singleton.1 hx]; omega) _ w3 (strs_of_own hown2)).mono ?_
    rintro e w4 ⟨rfl, hb⟩
    have hB5 := hB4.trans (hb.mono hB4.size)
    obtain ⟨m, hm⟩ : ∃ m, makeR (L ++ [s]) false = m := ⟨_, rfl⟩
    rw [hm]
    have HR2 : Hid (joinR d s = m) := Lib.hid (by rw [HR.out, hm])
    have HB5 := Lib.hid hB5
    clear hown' hown2 hB4 hB3 hB hgrow hrow hb hB5 hm
    cases m <;>
    · unfold strR
      dsimp only
      go_wp2_with fail
      go_ret2
      exact ⟨by rw [HR2.out]; rfl, HB5.out⟩
end Go.Proofs.YtkchhgpebleioaaDoor
