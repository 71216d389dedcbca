/-
  The program's Same for every text and limits.
-/
import Derived.Test.YtekbahpobhjobaaDoorNDiv
import Derived.Lib.AtoiErrMem
namespace Go.Proofs.YtekbahpobhjobaaDoor
open Go.RowKit
theorem infoU : (Tryd.prog.info? 23).map (fun i => (i.zero, i.size, i.bytes)) = some (some (.int .u64 0), 1, 8) := by kernel_rfl
def numV (e : List UInt8) : Value := .int .u64 (numL false e : Int)
theorem errE_yes {digits : Int} {most : Nat} {e : List UInt8} (h : errE digits most e = true) : (readR false e digits most).1 = 0 := by
  unfold errE at h
  unfold readR at h ⊢
  split
  · rfl
  · rename_i h1
    rw [if_neg h1] at h
    split
    · rfl
    · rename_i h2
      rw [if_neg h2] at h
      split
      · rfl
      · rename_i h3; rw [if_neg h3] at h; cases h
/-- What the conversion of a string leaves. -/
theorem conv_bytes (l : List UInt8) (hl : l.length < 100000) (w : World) : ∃ (C : Nat) (W1 : World), (convert 9 37 (.string ⟨l.toArray⟩)).run Tryd.prog w = .ok (.slice (some ⟨w.heap.size, 0, none⟩) l.length C) W1 ∧ l.length ≤ C ∧ C ≤ 9223372036854775807 ∧ Below w.heap.size w W1 ∧ CellsIn W1 (some ⟨w.heap.size, 0, none⟩) l.length (byteC l) := by
  have h := Lib.run_convert_string_bytes (P := Tryd.prog) w 9 37 5 ⟨l.toArray⟩ Tryd.underlying9 Tryd.underlying37 Tryd.underlying5
  have hs : (ByteArray.mk l.toArray).size = l.length := by simp [ByteArray.size]
  rw [hs] at h
  refine ⟨_, _, h, grownCap_ge _ _ _ _, ?_, Lib.bytesWorld_below _ _ _, fun j hj => ⟨w.heap.size, 0, rfl, by rw [Lib.bytesWorld_size]; omega, ?_⟩⟩
  · have := grownCap_le_maxLen w l.length 0 5 (by unfold maxLen; omega)
    unfold maxLen at this
    exact this
  · rw [Nat.zero_add, Lib.bytesWorld_cell _ _ _ j (by rw [hs]; exact hj)]
    rfl
set_option maxRecDepth 100000 in
set_option maxHeartbeats 8000000 in
theorem same_any (l : List UInt8) (hl : l.length < 100000) (digits : Int) (most : Nat) (hmost : most < U64) (w : World) :
    Calls Tryd.prog 18 #[.string ⟨l.toArray⟩, .int .i64 digits, .int .u64 (most : Int)] w fun e w' => e = .returned (sameV l digits most) ∧ Below w.heap.size w w' := by
  obtain ⟨i0, hi, hz0, hz1, hz2⟩ := info_parts infoU
  obtain ⟨E, hE⟩ : ∃ E, elemsL l = E := ⟨_, rfl⟩
  have hel := elems_all l
  rw [hE] at hel
  obtain ⟨hel1, hel2, hel3⟩ := hel
  have HM := Lib.hid hel3
  have HE := Lib.hid hE
  obtain ⟨C, W1, hcv, hC1, hC2, hW1, hcells⟩ := conv_bytes l hl w
  have hq : CellsIn (W1.alloc (.cells #[.int .u8 44] 5)) (some ⟨W1.heap.size, 0, none⟩) 1 (fun _ => .int .u8 44) := fun j hj => by
    obtain rfl : j = 0 := by omega
    exact ⟨_, 0, rfl, by simp, cell_one_new _ _ _ 0 _ rfl⟩
  have hcells2 := hcells.below (w' := W1.alloc (.cells #[.int .u8 44] 5)) (k := W1.heap.size) ((Below.refl _ _).alloc (Nat.le_refl _) _) (Nat.le_refl _)
  have hdv := divide_any l hl (some ⟨w.heap.size, 0, none⟩) C hC1 hC2 (some ⟨W1.heap.size, 0, none⟩) _ hcells2 hq
  rw [hE] at hdv
  have HDV := Lib.hid hdv
  have HW1 := Lib.hid hW1
  have HMO := Lib.hid hmost
  clear hel3 hE hdv hq hcells hcells2 hW1 hmost
  go_enter Tryd.func18, Tryd.ntmps18
  go_wp2_with fail
  refine HDV.out.mono ?_
  rintro e w2 ⟨v, xs, rfl, hrow, hparts, hb⟩
  have hxl := hparts.length
  have hpt := fun k h1 h2 => (hparts.at k h1 h2).below hb (Nat.le_refl _)
  have hsz := HW1.out.size
  have hbw : Below w.heap.size w w2 := (HW1.out.alloc hsz _).trans (hb.mono (by simp; omega))
  have HPT := Lib.hid hpt
  have HBW := Lib.hid hbw
  rw [hxl] at hrow
  obtain ⟨g, cap, rfl, hg1, hg2⟩ := hrow.form hel2
  have hgl : g < w2.heap.size := (hrow.lt g rfl).2
  have HRW := Lib.hid hrow
  clear hparts hb hsz hpt hbw hrow hcv hC1 hC2
  go_wp2_with fail
  go_loopw [24] (fun i wr => ∃ k : Nat, k ≤ E.length ∧ i = .int .i64 k ∧ Hid ((E.take k).any badE = false) ∧ w2 = wr) (fun i _ => E.length - (intOf i).toNat)
  case atStart => exact ⟨0, Nat.zero_le _, rfl, Lib.hid (by rw [List.take_zero]; rfl), rfl⟩
  case round =>
  obtain ⟨k, hk, rfl, hno, rfl⟩ := hrel
  by_cases hlt : k < E.length
  · have d1 : decide ((k : Int) < (E.length : Int)) = true := decide_eq_true (by omega)
    have hb2 : (k : Int) < (E.length : Int) := by omega
    have hstep := any_take hlt badE
    have hpart := HPT.out k (by omega) hlt
    have hcell := HRW.out.cellAt k (by omega)
    rw [List.getElem?_eq_getElem (by omega : k < xs.length)] at hcell
    obtain ⟨e, he⟩ : ∃ e, E[k] = e := ⟨_, rfl⟩
    have hel : e.length < 1000000 := by
      have := HM.out e (by rw [← he]; exact List.getElem_mem hlt)
      omega
    rw [he] at hpart
    obtain ⟨pp, pc, hx, hce⟩ := hpart
    rw [hx] at hcell
    rw [he, hno.out] at hstep
    have HCE := Lib.hid hce
    have hyes : Hid (badE e = true → sameR l digits most = (0, 3)) := Lib.hid (fun h => by
      unfold sameR
      rw [HE.out, if_pos (any_yes hlt (by rw [he]; exact h))])
    cases hq : badE e
    · have HQ2 : Hid (badH false e = false) := Lib.hid hq
      have hnext : Hid ((E.take (k + 1)).any badE = false) := Lib.hid (by rw [hstep, hq]; rfl)
      clear hstep he hx hce hq hyes
      go_wp2_with fail
      refine (by_isNumber e hel pp pc false _ HCE.out).mono ?_
      rintro e' w' ⟨rfl, rfl⟩
      rw [HQ2.out]
      go_wp2_with fail
      go_roundw
      case rel => exact ⟨k + 1, by omega, by go_num, hnext, trivial⟩
      case measure => simp [intOf]; omega
    · have HQ2 : Hid (badH false e = true) := Lib.hid hq
      have hres := Lib.hid (hyes.out hq)
      clear hstep he hx hce hq hyes
      go_wp2_with fail
      refine (by_isNumber e hel pp pc false _ HCE.out).mono ?_
      rintro e' w' ⟨rfl, rfl⟩
      rw [HQ2.out]
      go_wp2_with fail
      go_ret2
      exact ⟨by unfold sameV; rw [hres.out]; rfl, HBW.out⟩
  · have d1 : decide ((k : Int) < (E.length : Int)) = false := decide_eq_false (by omega)
    have hno2 : Hid (E.any badE = false) := Lib.hid (by rw [← hno.out, List.take_of_length_le (by omega)])
    clear hno
    go_wp2_with fail
    go_loopw [11, 34] (fun v i wr => ∃ k : Nat, k ≤ E.length ∧ i = .int .i64 k ∧ Hid ((E.take k).all (fun e => !(errE digits most e)) = true) ∧ wr.ownsRow w2.heap.size 23 1 v k ((E.take k).map numV) ∧ Below w2.heap.size w2 wr) (fun _ i _ => E.length - (intOf i).toNat)
    case atStart => exact ⟨0, Nat.zero_le _, rfl, Lib.hid (by rw [List.take_zero]; rfl), World.ownsRow_nil _ _ _ _, Below.refl _ _⟩
    case round =>
    obtain ⟨k, hk, rfl, hok, hrow, hB⟩ := hrel
    by_cases hlt : k < E.length
    · have d1 : decide ((k : Int) < (E.length : Int)) = true := decide_eq_true (by omega)
      have hb2 : (k : Int) < (E.length : Int) := by omega
      have hstep := all_take hlt (fun e => !(errE digits most e))
      have hpart := (HPT.out k (by omega) hlt).below hB (Nat.le_refl _)
      have hcell := (hB.cell (p := ⟨g, k, none⟩) hgl).trans (HRW.out.cellAt k (by omega))
      rw [List.getElem?_eq_getElem (by omega : k < xs.length)] at hcell
      have hmap : (E.take (k + 1)).map numV = (E.take k).map numV ++ [numV E[k]] := by
        rw [List.take_succ_eq_append_getElem hlt, List.map_append]; rfl
      obtain ⟨e, he⟩ : ∃ e, E[k] = e := ⟨_, rfl⟩
      have hel : e.length < 1000000 := by
        have := HM.out e (by rw [← he]; exact List.getElem_mem hlt)
        omega
      rw [he] at hpart hmap
      obtain ⟨pp, pc, hx, hce⟩ := hpart
      rw [hx] at hcell
      rw [he, hok.out] at hstep
      have HCE := Lib.hid hce
      have HMAP := Lib.hid hmap
      cases hq : errE digits most e
      · obtain ⟨hr, hu⟩ := errE_no hq
        have hnext : Hid ((E.take (k + 1)).all (fun e => !(errE digits most e)) = true) := Lib.hid (by rw [hstep, hq]; rfl)
        obtain ⟨x, hxx⟩ : ∃ x, numL false e = x := ⟨_, rfl⟩
        rw [hxx] at hr
        have HR : Hid (readV false e digits most = .tuple #[.int .u64 (x : Nat), .int .i64 0]) := Lib.hid (by unfold readV; rw [hr]; rfl)
        have HN : Hid (numV e = .int .u64 (x : Int)) := Lib.hid (by unfold numV; rw [hxx])
        clear hstep he hx hce hq hr hu hxx hmap
        go_wp2_with fail
        refine (by_read e hel pp pc false digits most HMO.out _ HCE.out).mono ?_
        rintro e' w' ⟨rfl, rfl⟩
        rw [HR.out]
        go_wp2_with (at_builtin; refine wpList_append_own _ rfl _ _ 46 rfl w2.heap.size 23 i0 (.int .u64 0) 1 8 Tryd.underlying46 hi hz0 hz1 hz2 rfl (by decide) _ _ _ rfl (hrow.alloc _) ⟨wr.heap.size, 0, none⟩ 1 1 [.int .u64 (x : Int)] rfl rfl (cell_one_new _ _ _) (by simp [Value.oneCell']) (by unfold maxLen; omega) (by omega) (by have := hB.size; simp; omega) ?_; intro v' w1 hown' hgrow _)
        go_roundw
        case rel =>
          refine ⟨k + 1, by omega, by go_num, hnext, ?_, below_grown (hB.alloc hB.size _) (by have := hB.size; simp; omega) hgrow (own_ge hrow _ (Nat.le_refl _))⟩
          rw [HMAP.out, HN.out]
          exact hown'
        case measure => simp [intOf]; omega
      · have h1 := errE_yes hq
        obtain ⟨x, hxx⟩ : ∃ x, (readR false e digits most).2 = x := ⟨_, rfl⟩
        have hx0 : x ≠ 0 := by
          intro h0
          unfold errE at hq
          rw [hxx, h0] at hq
          cases hq
        have HR : Hid (readV false e digits most = .tuple #[.int .u64 0, .int .i64 (x : Int)]) := Lib.hid (by unfold readV; rw [h1, hxx]; rfl)
        have hfd : E.find? (fun e => (readR false e digits most).2 != 0) = some E[k] := find_at hlt hok.out (f := errE digits most) (by rw [he]; exact hq)
        have hres : Hid (sameR l digits most = (0, x)) := Lib.hid (by
          unfold sameR
          rw [HE.out, if_neg (by rw [hno2.out]; simp), hfd, he]
          show (0, (readR false e digits most).2) = _
          rw [hxx])
        have d2 : ((x : Int) != 0) = true := by rw [bne_iff_ne]; omega
        clear hstep he hx hce hq h1 hxx hmap hx0 hfd
        go_wp2_with fail
        refine (by_read e hel pp pc false digits most HMO.out _ HCE.out).mono ?_
        rintro e' w' ⟨rfl, rfl⟩
        rw [HR.out]
        go_wp2_with fail
        go_ret2
        exact ⟨by unfold sameV; rw [hres.out]; rfl, HBW.out.trans (hB.mono HBW.out.size)⟩
    · have d1 : decide ((k : Int) < (E.length : Int)) = false := decide_eq_false (by omega)
      obtain rfl : k = E.length := by omega
      have hok2 : Hid (E.all (fun e => !(errE digits most e)) = true) := Lib.hid (by rw [← hok.out, List.take_length])
      rw [List.take_length] at hrow
      obtain ⟨g3, cap3, rfl, hg31, hg32⟩ := hrow.form hel2
      have hB3 : Below w.heap.size w wr := HBW.out.trans (hB.mono HBW.out.size)
      have hcell0 := hrow.cellAt 0 (by omega)
      rw [List.getElem?_map, List.getElem?_eq_getElem hel2, Option.map_some] at hcell0
      have hhd : E.headD [] = E[0] := by
        cases E with
        | nil => exact absurd hel2 (by simp)
        | cons _ _ => rfl
      obtain ⟨F, hF⟩ : ∃ F, numL false E[0] = F := ⟨_, rfl⟩
      have hF2 : Hid (numL false (E.headD []) = F) := Lib.hid (by rw [hhd, hF])
      unfold numV at hcell0
      rw [hF] at hcell0
      have hfind : Hid (E.find? (fun e => (readR false e digits most).2 != 0) = none) := Lib.hid (find_none (f := errE digits most) hok2.out)
      have HR3 := Lib.hid hrow
      have HB3 := Lib.hid hB3
      clear hok hok2 hB hrow hF hhd hB3
      go_wp2_with fail
      go_loopw [55] (fun i wx => ∃ k : Nat, k ≤ E.length ∧ i = .int .i64 k ∧ Hid ((E.take k).all (fun e => numL false e == F) = true) ∧ wr = wx) (fun i _ => E.length - (intOf i).toNat)
      case atStart => exact ⟨0, Nat.zero_le _, rfl, Lib.hid (by rw [List.take_zero]; rfl), rfl⟩
      case round =>
      obtain ⟨k, hk, rfl, hal, rfl⟩ := hrel
      by_cases hlt : k < E.length
      · have d1 : decide ((k : Int) < (E.length : Int)) = true := decide_eq_true (by omega)
        have hb2 : (k : Int) < (E.length : Int) := by omega
        have hb0 : (0 : Int) < (E.length : Int) := by omega
        have hstep := all_take hlt (fun e => numL false e == F)
        have hcell := HR3.out.cellAt k (by omega)
        rw [List.getElem?_map, List.getElem?_eq_getElem hlt, Option.map_some] at hcell
        rw [hal.out] at hstep
        obtain ⟨x, hxx⟩ : ∃ x, numL false E[k] = x := ⟨_, rfl⟩
        unfold numV at hcell
        rw [hxx] at hcell
        by_cases hxF : x = F
        · have hnext : Hid ((E.take (k + 1)).all (fun e => numL false e == F) = true) := Lib.hid (by rw [hstep, hxx, hxF]; simp)
          subst hxF
          clear hstep hxx
          go_wp2_with fail
          go_roundw
          case rel => exact ⟨k + 1, by omega, by go_num, hnext, trivial⟩
          case measure => simp [intOf]; omega
        · have hres : Hid (sameR l digits most = (0, 7)) := Lib.hid (by
            unfold sameR
            rw [HE.out, if_neg (by rw [hno2.out]; simp), hfind.out, hF2.out]
            rw [if_neg]
            intro h
            have := List.all_eq_true.1 h _ (List.getElem_mem hlt)
            rw [beq_iff_eq] at this
            exact hxF (hxx.symm.trans this))
          have d2 : ((x : Int) != (F : Int)) = true := by rw [bne_iff_ne]; omega
          clear hstep hxx
          go_wp2_with fail
          go_ret2
          exact ⟨by unfold sameV; rw [hres.out]; rfl, HB3.out⟩
      · have d1 : decide ((k : Int) < (E.length : Int)) = false := decide_eq_false (by omega)
        have hb0 : (0 : Int) < (E.length : Int) := by omega
        have hall : (E.all (fun e => numL false e == F)) = true := by rw [← hal.out, List.take_of_length_le (by omega)]
        have hres : Hid (sameR l digits most = (F, 0)) := Lib.hid (by
          unfold sameR
          rw [HE.out, if_neg (by rw [hno2.out]; simp), hfind.out, hF2.out]
          rw [if_pos hall])
        clear hall hal
        go_wp2_with fail
        go_ret2
        exact ⟨by unfold sameV; rw [hres.out]; rfl, HB3.out⟩
end Go.Proofs.YtekbahpobhjobaaDoor
