/-
  The reference's Segments, directory, under, Under and Parent, for every text shorter than 50000 bytes.
-/
import Derived.Test.YtkchhgpebleioaaDoorDRef4
import Derived.Test.YtkchhgpebleioaaDoorDPure2
namespace Go.Proofs.YtkchhgpebleioaaDoor
open Go.RowKit
/-- A list of texts and no error, or no list and an error. -/
def ListPost (base : Nat) (R : Nat ⊕ List (List UInt8)) (e : Ending) (w : World) : Prop :=
  match R with
  | .inl x => e = .returned (.tuple #[.slice none 0 0, .int .i64 (x : Int)])
  | .inr L => ∃ v, e = .returned (.tuple #[v, .int .i64 0]) ∧ w.ownsRow base 9 1 v L.length (L.map strW)
theorem norm_pos {p : List UInt8} (h : normB p = true) : 0 < p.length := by
  have := (norm_parts h).1
  cases p with
  | nil => simp [pathB] at this
  | cons c r => simp
theorem ones_str (L : List (List UInt8)) : ∀ u ∈ L.map strW, u.oneCell' = true := fun u hu => by
  obtain ⟨x, _, rfl⟩ := List.mem_map.1 hu
  rfl
set_option maxRecDepth 100000 in
set_option maxHeartbeats 4000000 in
theorem refSegments_any (p : List UInt8) (hl : p.length < 50000) (w : World) :
    Calls Tryd.prog 26 #[.string ⟨p.toArray⟩] w fun e w' => ListPost w.heap.size (segsR p) e w' ∧ Below w.heap.size w w' := by
  obtain ⟨i0, hi, hz0, hz1, hz2⟩ := info_parts infoS4
  obtain ⟨q, hq⟩ : ∃ q, normB p = q := ⟨_, rfl⟩
  have HQ := Lib.hid hq
  cases q
  · have HR : Hid (segsR p = .inl 3) := Lib.hid (by unfold segsR; rw [hq]; rfl)
    clear hq
    go_enter Tryd.func26, Tryd.ntmps26
    go_wp2_with fail
    refine (refNormal_any p (by omega) _).mono ?_
    rintro e w1 ⟨rfl, hB⟩
    rw [HQ.out]
    go_wp2_with fail
    go_ret2
    exact ⟨by rw [HR.out]; rfl, hB⟩
  · have hp0 := norm_pos hq
    have hS := segs_eq hq
    have hR : segsR p = .inr (segsL p) := by unfold segsR; rw [hq]; rfl
    have hlen := pieces_len p
    have hpne : (piecesL p).length ≠ 0 := fun e => pieces_ne p (List.eq_nil_of_length_eq_zero e)
    have hpc := fun W => refPieces_any p hp0 (by omega) W
    have hop := fun W => refOpen_any p hp0 (by omega) W
    obtain ⟨R, hRR⟩ : ∃ R, piecesL p = R := ⟨_, rfl⟩
    obtain ⟨o, ho⟩ : ∃ o, openB p = o := ⟨_, rfl⟩
    rw [hRR] at hpc hS hlen hpne
    rw [ho] at hop hS
    have HPC := Lib.hid hpc
    have HOP := Lib.hid hop
    have HR := Lib.hid hR
    have HS := Lib.hid hS
    clear hq hRR hR hpc hop hS ho
    go_enter Tryd.func26, Tryd.ntmps26
    go_wp2_with fail
    refine (refNormal_any p (by omega) _).mono ?_
    rintro e w1 ⟨rfl, hB⟩
    rw [HQ.out]
    go_wp2_with fail
    refine (HPC.out _).mono ?_
    rintro e w2 ⟨v, rfl, hrow, hB2⟩
    have hB2 := hB.trans (hB2.mono hB.size)
    have hs1 := hB.size
    obtain ⟨n, hn⟩ : ∃ n, R.length = n + 1 := ⟨R.length - 1, by omega⟩
    obtain ⟨g, cap, rfl, hcap, hrow2⟩ := own_pop hrow hn
    have HD : Hid (R.dropLast.length = n) := Lib.hid (by rw [List.length_dropLast]; omega)
    have HN := Lib.hid hn
    have q1 : IntKind.i64.wrap ((R.length : Int) - 1) = (n : Int) := by rw [IntKind.wrap_i64]; omega
    have q2 : (R.length : Int) - 1 = (n : Int) := by omega
    have q4 : (n : Int) ≤ (cap : Int) := by omega
    have q5 : n ≤ cap := by omega
    have q6 : (0 : Int) ≤ (n : Int) := by omega
    have q7 : R.length - 1 = n := by omega
    have hlit := World.ownsRow_lit (base := w.heap.size) (e := 9) (size := 1) w2 #[] 0 hB2.size (by decide) rfl
    have hB3 : Below w.heap.size w (w2.alloc (.cells #[] 9)) := hB2.alloc hB2.size _
    have hb3 : Below w2.heap.size w2 (w2.alloc (.cells #[] 9)) := (Below.refl _ _).alloc (Nat.le_refl _) _
    cases o
    · obtain ⟨p', c', hv, hC⟩ := strs_of_own hrow
      injection hv with hv1 hv2 hv3
      subst hv1 hv3
      have hnews := news_of hC hb3
      have HNEWS := Lib.hid hnews
      clear hn hrow hrow2 hC hnews hB hv2
      go_wp2_with fail
      refine (HOP.out _).mono ?_
      rintro e w' ⟨rfl, rfl⟩
      go_wp2_with (at_builtin; refine wpList_append_own _ rfl _ _ 26 rfl w.heap.size 9 i0 (.string ⟨#[]⟩) 1 16 Tryd.underlying26 hi hz0 hz1 hz2 rfl (by decide) _ _ _ rfl hlit ⟨g, 0, none⟩ R.length cap (R.map strW) rfl (by simp) HNEWS.out (ones_str R) (by unfold maxLen; omega) (by omega) hB3.size ?_; intro v' w3 hown' hgrow _)
      go_ret2
      rw [HR.out, HS.out]
      rw [Nat.zero_add] at hown'
      exact ⟨⟨_, rfl, hown'⟩, below_grownR hB3 hB3.size hgrow (fun r hr => (hlit.lt r hr).1)⟩
    · obtain ⟨p', c', hv, hC⟩ := strs_of_own hrow2
      injection hv with hv1 hv2 hv3
      subst hv1 hv3
      have hnews := news_of hC hb3
      have HNEWS := Lib.hid hnews
      clear hn hrow hrow2 hC hnews hB hv2
      go_wp2_with fail
      refine (HOP.out _).mono ?_
      rintro e w' ⟨rfl, rfl⟩
      go_wp2_with (at_builtin; refine wpList_append_own _ rfl _ _ 26 rfl w.heap.size 9 i0 (.string ⟨#[]⟩) 1 16 Tryd.underlying26 hi hz0 hz1 hz2 rfl (by decide) _ _ _ rfl hlit ⟨g, 0, none⟩ n cap (R.dropLast.map strW) rfl (by rw [List.length_map, HD.out]; simp) HNEWS.out (ones_str _) (by unfold maxLen; have := HN.out; omega) (by have := HN.out; omega) hB3.size ?_; intro v' w3 hown' hgrow _)
      go_ret2
      rw [HR.out, HS.out]
      rw [Nat.zero_add, ← HD.out] at hown'
      exact ⟨⟨_, rfl, hown'⟩, below_grownR hB3 hB3.size hgrow (fun r hr => (hlit.lt r hr).1)⟩
set_option maxHeartbeats 2000000 in
theorem refDir_any (p : List UInt8) (hl : p.length < 50000) (w : World) :
    Calls Tryd.prog 51 #[.string ⟨p.toArray⟩] w fun e w' => e = .returned (.bool (dirB p)) ∧ Below w.heap.size w w' := by
  obtain ⟨q, hq⟩ : ∃ q, normB p = q := ⟨_, rfl⟩
  have HQ := Lib.hid hq
  have hR : dirB p = (q && (p == [47] || !openB p)) := by unfold dirB; rw [hq]
  cases q
  · have HR : Hid (dirB p = false) := Lib.hid hR
    clear hq hR
    go_enter Tryd.func51, Tryd.ntmps51
    go_wp2_with fail
    refine (refNormal_any p (by omega) _).mono ?_
    rintro e w1 ⟨rfl, hB⟩
    rw [HQ.out]
    go_wp2_with fail
    go_ret
    exact ⟨by rw [HR.out]; rfl, hB⟩
  · have hp0 := norm_pos hq
    have HOP := Lib.hid (fun W => refOpen_any p hp0 (by omega) W)
    obtain ⟨e1, he1⟩ : ∃ b, (p == [47]) = b := ⟨_, rfl⟩
    obtain ⟨o, ho⟩ : ∃ o, openB p = o := ⟨_, rfl⟩
    have HO := Lib.hid ho
    have HR : Hid (dirB p = (e1 || !o)) := Lib.hid (by rw [hR, he1, ho]; rfl)
    clear hq hR ho hp0
    cases e1
    · go_enter Tryd.func51, Tryd.ntmps51
      go_wp2_with fail
      refine (refNormal_any p (by omega) _).mono ?_
      rintro e w1 ⟨rfl, hB⟩
      rw [HQ.out]
      go_wp2_with fail
      refine (HOP.out _).mono ?_
      rintro e w' ⟨rfl, rfl⟩
      rw [HO.out]
      go_wp2_with fail
      go_ret
      exact ⟨by rw [HR.out]; rfl, hB⟩
    · go_enter Tryd.func51, Tryd.ntmps51
      go_wp2_with fail
      refine (refNormal_any p (by omega) _).mono ?_
      rintro e w1 ⟨rfl, hB⟩
      rw [HQ.out]
      go_wp2_with fail
      go_ret
      exact ⟨by rw [HR.out]; rfl, hB⟩
theorem under_cut (p d : List UInt8) (h : d.length < p.length) : (d ++ [47]).isPrefixOf p = (p.take d.length == d && (p[d.length]).toNat == 47) := by
  rw [Bool.eq_iff_iff, List.isPrefixOf_iff_prefix, Bool.and_eq_true, beq_iff_eq, beq_iff_eq]
  constructor
  · rintro ⟨t, rfl⟩
    exact ⟨by simp, by simp⟩
  · rintro ⟨h1, h2⟩
    refine ⟨p.drop (d.length + 1), ?_⟩
    have h3 : p[d.length] = 47 := UInt8.toNat_inj.1 h2
    have h4 := List.take_append_drop d.length p
    rw [List.drop_eq_getElem_cons h, h1, h3] at h4
    rw [List.append_assoc]
    exact h4
theorem under_short (p d : List UInt8) (h : ¬ d.length < p.length) : (d ++ [47]).isPrefixOf p = false := by
  rw [Bool.eq_false_iff, Ne, List.isPrefixOf_iff_prefix]
  rintro ⟨t, rfl⟩
  exact h (by simp)
section
attribute [local go_sem] ba_get
set_option maxRecDepth 100000 in
set_option maxHeartbeats 4000000 in
theorem refUnder1_any (p d : List UInt8) (w : World) :
    Calls Tryd.prog 52 #[.string ⟨p.toArray⟩, .string ⟨d.toArray⟩] w fun e w' => e = .returned (.bool (underB p d)) ∧ w = w' := by
  obtain ⟨e1, he1⟩ : ∃ b, (d == [47]) = b := ⟨_, rfl⟩
  obtain ⟨e2, he2⟩ : ∃ b, (p == d) = b := ⟨_, rfl⟩
  have hR : underB p d = (e1 || e2 || (d ++ [47]).isPrefixOf p) := by unfold underB; rw [he1, he2]
  cases e1 with
  | true =>
    have HR : Hid (underB p d = true) := Lib.hid hR
    clear hR
    go_enter Tryd.func52, Tryd.ntmps52
    go_wp2_with fail
    go_ret
    exact ⟨by rw [HR.out]; rfl, rfl⟩
  | false =>
    cases e2 with
    | true =>
      have HR : Hid (underB p d = true) := Lib.hid hR
      clear hR
      go_enter Tryd.func52, Tryd.ntmps52
      go_wp2_with fail
      go_ret
      exact ⟨by rw [HR.out]; rfl, rfl⟩
    | false =>
      by_cases hlt : d.length < p.length
      · have d1 : decide ((d.length : Int) < (p.length : Int)) = true := decide_eq_true (by omega)
        have d1n : decide (d.length < p.length) = true := decide_eq_true hlt
        have hb : (d.length : Int) ≤ (p.length : Int) := by omega
        have hb2 : (d.length : Int) < (p.length : Int) := by omega
        rw [under_cut p d hlt] at hR
        obtain ⟨X, hX⟩ : ∃ X, p.take d.length = X := ⟨_, rfl⟩
        have hmid : (ByteArray.mk p.toArray).extract 0 d.length = ⟨X.toArray⟩ := by rw [ba_mid, List.drop_zero, hX]
        rw [hX] at hR
        obtain ⟨e3, he3⟩ : ∃ b, (X == d) = b := ⟨_, rfl⟩
        obtain ⟨e4, he4⟩ : ∃ b, ((p[d.length]'hlt).toNat == 47) = b := ⟨_, rfl⟩
        have he5 : (((p[d.length]'hlt).toNat : Int) == 47) = e4 := by rw [i47, he4]
        rw [he3, he4] at hR
        have HR : Hid (underB p d = (e3 && e4)) := Lib.hid hR
        clear hR hX he4
        cases e3 with
        | true =>
          cases e4 <;>
          · go_enter Tryd.func52, Tryd.ntmps52
            go_wp2_with fail
            go_ret
            exact ⟨by rw [HR.out]; rfl, rfl⟩
        | false =>
          go_enter Tryd.func52, Tryd.ntmps52
          go_wp2_with fail
          go_ret
          exact ⟨by rw [HR.out]; rfl, rfl⟩
      · have d1 : decide ((d.length : Int) < (p.length : Int)) = false := decide_eq_false (by omega)
        have d1n : decide (d.length < p.length) = false := decide_eq_false hlt
        have HR : Hid (underB p d = false) := Lib.hid (by rw [hR, under_short p d hlt]; rfl)
        clear hR
        go_enter Tryd.func52, Tryd.ntmps52
        go_wp2_with fail
        go_ret
        exact ⟨by rw [HR.out]; rfl, rfl⟩
end
set_option maxHeartbeats 2000000 in
theorem refUnder_any (p d : List UInt8) (hl : p.length < 50000) (hd : d.length < 50000) (w : World) :
    Calls Tryd.prog 29 #[.string ⟨p.toArray⟩, .string ⟨d.toArray⟩] w fun e w' => e = .returned (underR p d) ∧ Below w.heap.size w w' := by
  obtain ⟨q, hq⟩ : ∃ q, normB p = q := ⟨_, rfl⟩
  obtain ⟨r, hr⟩ : ∃ r, dirB d = r := ⟨_, rfl⟩
  have HQ := Lib.hid hq
  have HD := Lib.hid hr
  have hR : underR p d = if q && r then .tuple #[.bool (underB p d), .int .i64 0] else .tuple #[.bool false, .int .i64 3] := by unfold underR; rw [hq, hr]
  clear hq hr
  cases q with
  | false =>
    have HR : Hid (underR p d = .tuple #[.bool false, .int .i64 3]) := Lib.hid hR
    clear hR
    go_enter Tryd.func29, Tryd.ntmps29
    go_wp2_with fail
    refine (refNormal_any p (by omega) _).mono ?_
    rintro e w1 ⟨rfl, hB⟩
    rw [HQ.out]
    go_wp2_with fail
    go_ret2
    exact ⟨by rw [HR.out]; rfl, hB⟩
  | true =>
    cases r with
    | false =>
      have HR : Hid (underR p d = .tuple #[.bool false, .int .i64 3]) := Lib.hid hR
      clear hR
      go_enter Tryd.func29, Tryd.ntmps29
      go_wp2_with fail
      refine (refNormal_any p (by omega) _).mono ?_
      rintro e w1 ⟨rfl, hB⟩
      rw [HQ.out]
      go_wp2_with fail
      refine (refDir_any d hd _).mono ?_
      rintro e w2 ⟨rfl, hb⟩
      have hB := hB.trans (hb.mono hB.size)
      clear hb
      rw [HD.out]
      go_wp2_with fail
      go_ret2
      exact ⟨by rw [HR.out]; rfl, hB⟩
    | true =>
      have HR : Hid (underR p d = .tuple #[.bool (underB p d), .int .i64 0]) := Lib.hid hR
      clear hR
      go_enter Tryd.func29, Tryd.ntmps29
      go_wp2_with fail
      refine (refNormal_any p (by omega) _).mono ?_
      rintro e w1 ⟨rfl, hB⟩
      rw [HQ.out]
      go_wp2_with fail
      refine (refDir_any d hd _).mono ?_
      rintro e w2 ⟨rfl, hb⟩
      have hB := hB.trans (hb.mono hB.size)
      clear hb
      rw [HD.out]
      go_wp2_with fail
      refine (refUnder1_any p d _).mono ?_
      rintro e w' ⟨rfl, rfl⟩
      go_wp2_with fail
      go_ret2
      exact ⟨by rw [HR.out]; rfl, hB⟩
end Go.Proofs.YtkchhgpebleioaaDoor
