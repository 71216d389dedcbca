/-
  The reader of package pattern: classes, sets, and how often a piece stands, for every text of at most 1000 bytes; the table of signs holds what its initialiser lays.
-/
import Derived.Test.YtdnbnigebejgjaaGreatDoorHQ2
import Derived.Test.YtdnbnigebejgjaaGreatDoorHBits
namespace Go.Proofs.YtdnbnigebejgjaaGreatDoor
open Go.RowKit
/-- How much is still to be read. -/
def vl (t : List UInt8) (s : RS) : Nat := (restR t s).length
theorem vl_zero {t : List UInt8} {s : RS} (h : s.e ≠ 0) : vl t s = 0 := by unfold vl restR; rw [if_neg h]; rfl
theorem vl_at {t : List UInt8} {s : RS} (h : s.e = 0) : vl t s = t.length - s.k := by unfold vl restR; rw [if_pos h]; simp
theorem vl_fail (t : List UInt8) (s : RS) (e a : Nat) (he : e ≠ 0) : vl t (failR s e a) = 0 := by
  unfold failR
  split
  · exact vl_zero he
  · rename_i h; exact vl_zero h
theorem vl_take {t : List UInt8} {s : RS} {x : List UInt8} (h : takeB t s x = true) : vl t (takeR t s x) + x.length = vl t s := by
  have h1 : x.length ≤ (restR t s).length := (List.isPrefixOf_iff_prefix.1 h).length_le
  have hT : takeR t s x = ⟨s.k + x.length, s.e, s.a⟩ := if_pos h
  by_cases he : s.e = 0
  · rw [hT, vl_at he, vl_at (s := ⟨s.k + x.length, s.e, s.a⟩) he]
    have := vl_at (t := t) he
    unfold vl at this
    dsimp only
    omega
  · have := vl_zero (t := t) he
    rw [hT, vl_zero (s := ⟨s.k + x.length, s.e, s.a⟩) he, this]
    unfold vl at this
    omega
theorem vl_take_le (t : List UInt8) (s : RS) (x : List UInt8) : vl t (takeR t s x) ≤ vl t s := by
  cases h : takeB t s x with
  | true => have := vl_take h; omega
  | false => rw [takeR_no h]; exact Nat.le_refl _
theorem vl_need_le (t : List UInt8) (s : RS) (x : List UInt8) : vl t (needR t s x) ≤ vl t s := by
  unfold needR
  split
  · exact vl_take_le _ _ _
  · rw [vl_fail _ _ _ _ (by omega)]; exact Nat.zero_le _
theorem vl_sees {t : List UInt8} {s : RS} {o : List UInt8} (h : seesB t s o = true) : 0 < vl t s := by
  unfold seesB at h
  unfold vl
  cases hr : restR t s with
  | nil => rw [hr] at h; cases h
  | cons c r => simp
theorem vl_one_le (t : List UInt8) (s : RS) (o : List UInt8) : vl t (oneR t s o) ≤ vl t s := by
  unfold oneR
  split
  · by_cases he : s.e = 0
    · rw [vl_at he, vl_at (s := ⟨s.k + 1, s.e, s.a⟩) he]; dsimp only; omega
    · rw [vl_zero (s := ⟨s.k + 1, s.e, s.a⟩) he]; omega
  · rw [vl_fail _ _ _ _ (by omega)]; exact Nat.zero_le _
theorem vl_one {t : List UInt8} {s : RS} (o : List UInt8) (h : 0 < vl t s) : vl t (oneR t s o) < vl t s := by
  unfold oneR
  split
  · by_cases he : s.e = 0
    · rw [vl_at he] at h
      rw [vl_at he, vl_at (s := ⟨s.k + 1, s.e, s.a⟩) he]; dsimp only; omega
    · rw [vl_zero he] at h; omega
  · rw [vl_fail _ _ _ _ (by omega)]; exact h
theorem vl_cb {t : List UInt8} {s : RS} (h : 0 < vl t s) : vl t (cbR t s) < vl t s := by
  unfold cbR
  split
  · rename_i h1
    have h2 := vl_take h1
    have h3 := vl_one_le t (takeR t s [92]) [100, 119]
    simp at h2
    omega
  · exact vl_one _ h
theorem vl_cb_le (t : List UInt8) (s : RS) : vl t (cbR t s) ≤ vl t s := by
  unfold cbR
  split
  · exact Nat.le_trans (vl_one_le _ _ _) (vl_take_le _ _ _)
  · exact vl_one_le _ _ _
theorem vl_named {t : List UInt8} {s : RS} (h : (namedV t s).2 = true) : vl t (namedR t s) < vl t s := by
  unfold namedV at h
  unfold namedR
  split at h
  · rename_i h1
    rw [if_pos h1]
    have := vl_take h1
    simp at this
    omega
  · rename_i h0
    rw [if_neg h0]
    split at h
    · rename_i h1
      have := vl_take h1
      simp at this
      omega
    · cases h
theorem vl_el {t : List UInt8} {s : RS} (h : 0 < vl t s) : vl t (elR t s) < vl t s := by
  have hc := vl_cb h
  have h2 := vl_take_le t (cbR t s) [45]
  have h3 := vl_cb_le t (takeR t (cbR t s) [45])
  unfold elR
  split
  · rename_i h1; exact vl_named h1
  · split
    · split
      · omega
      · rw [vl_fail _ _ _ _ (by omega)]; exact h
    · exact hc
/-- How much is still to be read, as memory has it. -/
def visM (t : List UInt8) (w : World) (B : Nat) : Nat :=
  vl t ⟨(intOf ((w.cell? ⟨B, 1, none⟩).getD undef)).toNat, (intOf ((w.cell? ⟨B, 2, none⟩).getD undef)).toNat, 0⟩
theorem visM_of {t : List UInt8} {s : RS} {x4 x5 x6 x7 : Value} {w : World} {B : Nat} (h : RD w B t s x4 x5 x6 x7) : visM t w B = vl t s := by
  obtain ⟨c0, c1, c2, c3⟩ := h.cells
  unfold visM
  rw [c1, c2]
  simp only [Option.getD_some, intOf, Int.toNat_natCast]
  unfold vl restR
  rfl
theorem Blk.others4 {w : World} {B b : Nat} {s : WSet} (h : Blk w B s) (hb : b ≠ B) (x y z u : Value) : Blk ((((w.setCell ⟨b, 0, none⟩ x).setCell ⟨b, 1, none⟩ y).setCell ⟨b, 2, none⟩ z).setCell ⟨b, 3, none⟩ u) B s :=
  (((h.other ⟨b, 0, none⟩ hb x).other ⟨b, 1, none⟩ hb y).other ⟨b, 2, none⟩ hb z).other ⟨b, 3, none⟩ hb u
/-- Has the set no byte? -/
def WSet.isNone (s : WSet) : Bool := decide (s = .empty)
theorem eq_none (s : WSet) (w : World) :
    (Op.equalIn 10000 41 (.agg #[.int .u64 ((s.w 0).toNat : Int), .int .u64 ((s.w 1).toNat : Int), .int .u64 ((s.w 2).toNat : Int), .int .u64 ((s.w 3).toNat : Int)]) (.agg #[.int .u64 0, .int .u64 0, .int .u64 0, .int .u64 0])).run Tryz.prog w = .ok s.isNone w := by
  unfold WSet.isNone
  rw [eq_sets]
  congr 1
  obtain ⟨a, b, c, d⟩ := s
  show ((a.toNat : Int) == 0 && ((b.toNat : Int) == 0 && ((c.toNat : Int) == 0 && (d.toNat : Int) == 0))) = _
  have k : ∀ x : BitVec 64, ((x.toNat : Int) == 0) = decide (x = 0) := fun x => by
    by_cases h : x = 0
    · subst h; rfl
    · have : x.toNat ≠ 0 := fun e => h (BitVec.eq_of_toNat_eq e)
      rw [decide_eq_false h]
      simpa using this
  rw [k, k, k, k]
  unfold WSet.empty
  by_cases h1 : a = 0 <;> by_cases h2 : b = 0 <;> by_cases h3 : c = 0 <;> by_cases h4 : d = 0 <;> simp [h1, h2, h3, h4]
theorem eq_noneA (Z : WSet) (w : World) :
    (Op.equalIn 10000 41 (.agg #[.int .u64 (Z.a.toNat : Int), .int .u64 (Z.b.toNat : Int), .int .u64 (Z.c.toNat : Int), .int .u64 (Z.d.toNat : Int)]) (.agg #[.int .u64 0, .int .u64 0, .int .u64 0, .int .u64 0])).run Tryz.prog w = .ok (Z.isNone) w := eq_none Z w
attribute [local go_sem] eq_none eq_noneA
theorem everything_any (w : World) : Calls Tryz.prog 76 #[] w fun e w' => e = .returned WSet.empty.not.v ∧ Below w.heap.size w w' := by
  go_enter Tryz.func76, Tryz.ntmps76
  go_wp2_with fail
  refine (not_any 0 0 0 0 _).mono ?_
  rintro e w1 ⟨rfl, hb1⟩
  have b1 : Blk w1 w.heap.size .empty := (Blk.new0 w).below hb1 (by simp)
  have hB : Below w.heap.size w w1 := ((Below.refl _ w).alloc (Nat.le_refl _) _).trans (hb1.mono (by simp))
  obtain ⟨d0, d1, d2, d3⟩ := b1.cells
  obtain ⟨f0, f1, f2, f3⟩ := b1.frees
  clear hb1
  go_wp2_with fail
  exact bodyPost_ret ((b1.store _).results rfl _ rfl) rfl ⟨rfl, Blk.belowStore _ hB (Nat.le_refl _)⟩
set_option maxHeartbeats 4000000 in
set_option maxRecDepth 100000 in
theorem class_any (t : List UInt8) (s0' : RS) (x4 x5 x6 x7 : Value) (W : World) (B : Nat) (h : RD W B t s0' x4 x5 x6 x7) :
    Calls Tryz.prog 120 #[.pointer (some ⟨B, 0, none⟩)] W fun e w' => e = .returned (clsV t s0').v ∧ RD w' B t (clsR t s0') x4 x5 x6 x7 ∧ W.grownBy w' (some B) := by
  have hlt := h.lt
  obtain ⟨q, hq⟩ : ∃ q, takeB t s0' [94] = q := ⟨_, rfl⟩
  obtain ⟨s1, hs1⟩ : ∃ q, takeR t s0' [94] = q := ⟨_, rfl⟩
  obtain ⟨s2, hs2⟩ : ∃ q, elR t s1 = q := ⟨_, rfl⟩
  obtain ⟨⟨a, b, c, d⟩, hw2⟩ : ∃ q, elV t s1 = q := ⟨_, rfl⟩
  obtain ⟨R, hR⟩ : ∃ q, clsL t t.length s2 ⟨a, b, c, d⟩ = q := ⟨_, rfl⟩
  have HI : Hid (clsIn t s0' = R) := Lib.hid (by unfold clsIn; rw [hs1, hs2, hw2, hR])
  have HR := Lib.hid hR
  have hn : vl t s2 ≤ t.length := Nat.le_trans (restR_len t s2) (by omega)
  clear hR
  go_enter Tryz.func120, Tryz.ntmps120
  go_wp2_with fail
  refine (take_any t s0' x4 x5 x6 x7 [94] (by simp) _ B (jplain h _)).mono ?_
  rintro e w1 ⟨rfl, h1, hg1⟩
  rw [hq]
  rw [hs1] at h1
  have b1 : Blk w1 W.heap.size .empty := (Blk.new0 W).kept hg1 (jne hlt)
  have G1 := jgtrans (World.grownBy_alloc W _ (some B)) hg1
  clear hg1
  go_wp2_with fail
  refine (element_any t s1 x4 x5 x6 x7 _ B h1).mono ?_
  rintro e w2 ⟨rfl, h2, hg2⟩
  rw [hw2]
  rw [hs2] at h2
  have b2 := b1.kept hg2 (jne hlt)
  have G2 := jgtrans G1 hg2
  have hz2 := b2.lt
  clear h1 b1 G1 hg2 hw2 hs2
  obtain ⟨N, hN⟩ : ∃ N, w2.heap.size = N := ⟨_, rfl⟩
  have hzN : W.heap.size < N := hN ▸ hz2
  go_wp2_with fail
  go_loopw [10] (fun _ wr => ∃ (n : Nat) (s : RS) (w : WSet), vl t s ≤ n ∧ Hid (clsL t n s w = R) ∧ Hid (RD wr B t s x4 x5 x6 x7) ∧ Hid (Blk wr W.heap.size .empty) ∧ Hid (Blk wr N w) ∧ Hid (W.grownBy wr (some B))) (fun _ wr => visM t wr B)
  case atStart =>
    exact ⟨t.length, s2, ⟨a, b, c, d⟩, hn, HR, Lib.hid (jplain h2 _), Lib.hid (b2.alloc _), Lib.hid (hN ▸ Blk.new w2 ⟨a, b, c, d⟩), Lib.hid (jgal G2 _)⟩
  case round =>
    obtain ⟨n, s, ⟨a, b, c, d⟩, hn, hC, hD, hB0, hB1, hG⟩ := hrel
    rename World => wr
    have hm := visM_of hD.out
    clear h2 b2 G2 hN hz2
    obtain ⟨q2, hq2⟩ : ∃ q, seesB t s [93] = q := ⟨_, rfl⟩
    have hSE := sees_any t s x4 x5 x6 x7 [93] wr B hD.out
    rw [hq2] at hSE
    have HSE := Lib.hid hSE
    clear hSE
    cases q2 with
    | true =>
      have hpos := vl_sees hq2
      have hless := vl_el hpos
      obtain ⟨n', rfl⟩ : ∃ n', n = n' + 1 := ⟨n - 1, by omega⟩
      obtain ⟨⟨a', b', c', d'⟩, hw⟩ : ∃ q, elV t s = q := ⟨_, rfl⟩
      have hC2 : clsL t n' (elR t s) ((WSet.mk a b c d).or ⟨a', b', c', d'⟩) = R := by
        have := hC.out
        unfold clsL at this
        rw [if_pos hq2, hw] at this
        exact this
      have HC2 := Lib.hid hC2
      have HLE : Hid (vl t (elR t s) ≤ n') := Lib.hid (by omega)
      have HLT : Hid (vl t (elR t s) < vl t s) := Lib.hid hless
      have HM := Lib.hid hm
      have HEL := Lib.hid fun W h => hw ▸ element_any t s x4 x5 x6 x7 W B h
      clear hC2 hC hless hpos hq2 hw hn hm
      go_wp2_with fail
      refine HSE.out.mono ?_
      rintro e w3 ⟨rfl, hb3⟩
      have h3 := hD.out.below hb3 hD.out.lt
      have c3 := hB1.out.below hb3 hB1.out.lt
      have b3 := hB0.out.below hb3 hB0.out.lt
      have G3 := jgbe hG.out hb3
      obtain ⟨k0, k1, k2, k3⟩ := c3.cells
      have hz3 := c3.lt
      have hw3 : B < w3.heap.size := h3.lt
      clear hb3
      go_wp2_with fail
      go_region_with (first
        | (go_at_call 129; refine (HEL.out _ h3.drew).mono ?_; rintro e w4 ⟨rfl, h4, hg4⟩; have c4 := c3.drew.kept hg4 (jne (by omega)); have b4 := b3.drew.kept hg4 (jne hlt); have G4 := jgtrans (jgdrew G3) hg4; obtain ⟨l0, l1, l2, l3⟩ := c4.cells; obtain ⟨m0, m1, m2, m3⟩ := c4.frees; have hz4 := c4.lt)
        | (go_at_call 43; refine (union2 _ _ _ _ _ _ _ _ _).mono ?_; rintro e w5 ⟨rfl, hb5⟩; have h5 := h4.below hb5 h4.lt; have c5 := c4.below hb5 c4.lt; have b5 := b4.below hb5 b4.lt; have G5 := jgbe G4 hb5; obtain ⟨p0, p1, p2, p3⟩ := c5.cells; obtain ⟨r0, r1, r2, r3⟩ := c5.frees))
      all_goals
        go_wp2_with fail
        go_roundw
        case rel => exact ⟨n', elR t s, _, HLE.out, HC2, Lib.hid (jother h5 (by omega) _ _ _ _), Lib.hid (b5.others4 (by omega) _ _ _ _), Lib.hid (c5.store _), Lib.hid (jgstore G5 (by omega) _ _ _ _)⟩
        case measure => rw [visM_of (jother h5 (by omega) _ _ _ _), HM.out]; exact HLT.out
    | false =>
      have hC2 : R = (⟨a, b, c, d⟩, s) := by
        rw [← hC.out]
        cases n with
        | zero => rfl
        | succ n => exact if_neg (by rw [hq2]; simp)
      subst hC2
      clear hC hm hn hq2
      cases q with
      | true =>
        have HV : Hid (clsV t s0' = (WSet.mk a b c d).not) := Lib.hid (by unfold clsV; rw [hq, HI.out]; rfl)
        clear hq
        go_wp2_with fail
        refine HSE.out.mono ?_
        rintro e w3 ⟨rfl, hb3⟩
        have h3 := hD.out.below hb3 hD.out.lt
        have c3 := hB1.out.below hb3 hB1.out.lt
        have b3 := hB0.out.below hb3 hB0.out.lt
        have G3 := jgbe hG.out hb3
        obtain ⟨k0, k1, k2, k3⟩ := c3.cells
        clear hb3
        go_wp2_with fail
        refine (not_any a b c d _).mono ?_
        rintro e w4 ⟨rfl, hb4⟩
        have h4 := h3.below hb4 h3.lt
        have c4 := c3.below hb4 c3.lt
        have b4 := b3.below hb4 b3.lt
        have G4 := jgbe G3 hb4
        clear hb4 h3 c3 b3 G3 k0 k1 k2 k3
        obtain ⟨Z, hZ⟩ : ∃ Z, (WSet.mk a b c d).not = Z := ⟨_, rfl⟩
        rw [hZ] at HV ⊢
        clear hZ
        obtain ⟨k0, k1, k2, k3⟩ := c4.cells
        obtain ⟨s0, s1, s2, s3⟩ := c4.frees
        have h5 : RD ((((w4.setCell ⟨N, 0, none⟩ (.int .u64 (Z.a.toNat : Int))).setCell ⟨N, 1, none⟩ (.int .u64 (Z.b.toNat : Int))).setCell ⟨N, 2, none⟩ (.int .u64 (Z.c.toNat : Int))).setCell ⟨N, 3, none⟩ (.int .u64 (Z.d.toNat : Int))) B t s x4 x5 x6 x7 := jother h4 (by omega) _ _ _ _
        have c5 : Blk ((((w4.setCell ⟨N, 0, none⟩ (.int .u64 (Z.a.toNat : Int))).setCell ⟨N, 1, none⟩ (.int .u64 (Z.b.toNat : Int))).setCell ⟨N, 2, none⟩ (.int .u64 (Z.c.toNat : Int))).setCell ⟨N, 3, none⟩ (.int .u64 (Z.d.toNat : Int))) N Z := c4.store Z
        have b5 : Blk ((((w4.setCell ⟨N, 0, none⟩ (.int .u64 (Z.a.toNat : Int))).setCell ⟨N, 1, none⟩ (.int .u64 (Z.b.toNat : Int))).setCell ⟨N, 2, none⟩ (.int .u64 (Z.c.toNat : Int))).setCell ⟨N, 3, none⟩ (.int .u64 (Z.d.toNat : Int))) W.heap.size .empty := b4.others4 (by omega) _ _ _ _
        have G5 : W.grownBy ((((w4.setCell ⟨N, 0, none⟩ (.int .u64 (Z.a.toNat : Int))).setCell ⟨N, 1, none⟩ (.int .u64 (Z.b.toNat : Int))).setCell ⟨N, 2, none⟩ (.int .u64 (Z.c.toNat : Int))).setCell ⟨N, 3, none⟩ (.int .u64 (Z.d.toNat : Int))) (some B) := jgstore G4 (by omega) _ _ _ _
        have hNB : ¬ N = B := by omega
        have hBN : ¬ B = N := by omega
        obtain ⟨x0, x1, x2, x3⟩ := h4.cells
        clear h4 c4 b4 G4
        obtain ⟨z, hz⟩ : ∃ z, Z.isNone = z := ⟨_, rfl⟩
        cases z with
        | true =>
          have HE : Hid (clsR t s0' = needR t (failR s 3 s.k) [93]) := Lib.hid (by unfold clsR clsEnd; rw [HV.out, if_pos (of_decide_eq_true hz), HI.out])
          go_wp2_with fail
          refine (fail_any t s x4 x5 x6 x7 3 s.k _ B h5).mono ?_
          rintro e w6 ⟨rfl, h6, hg6⟩
          have c6 := c5.kept hg6 (jne (by omega))
          have b6 := b5.kept hg6 (jne hlt)
          have G6 := jgtrans G5 hg6
          clear h5 c5 b5 G5 hg6 k0 k1 k2 k3 s0 s1 s2 s3 x0 x1 x2 x3
          go_wp2_with fail
          refine (need_any t _ x4 x5 x6 x7 [93] (by simp) _ B h6).mono ?_
          rintro e w7 ⟨rfl, h7, hg7⟩
          have c7 := c6.kept hg7 (jne (by omega))
          have b7 := b6.kept hg7 (jne hlt)
          have G7 := jgtrans G6 hg7
          obtain ⟨k0, k1, k2, k3⟩ := c7.cells
          obtain ⟨y0, y1, y2, y3⟩ := b7.cells
          obtain ⟨f0, f1, f2, f3⟩ := b7.frees
          clear h6 c6 b6 G6 hg7
          go_wp2_with fail
          exact bodyPost_ret ((b7.store _).results rfl _ rfl) rfl ⟨by rw [HV.out], by rw [HE.out]; exact jother h7 (by omega) _ _ _ _, jgstore G7 (Nat.le_refl _) _ _ _ _⟩
        | false =>
          have HE : Hid (clsR t s0' = needR t s [93]) := Lib.hid (by unfold clsR clsEnd; rw [HV.out, if_neg (of_decide_eq_false hz), HI.out])
          go_wp2_with fail
          refine (need_any t _ x4 x5 x6 x7 [93] (by simp) _ B h5).mono ?_
          rintro e w7 ⟨rfl, h7, hg7⟩
          have c7 := c5.kept hg7 (jne (by omega))
          have b7 := b5.kept hg7 (jne hlt)
          have G7 := jgtrans G5 hg7
          clear h5 c5 b5 G5 hg7 k0 k1 k2 k3 s0 s1 s2 s3 x0 x1 x2 x3
          obtain ⟨k0, k1, k2, k3⟩ := c7.cells
          obtain ⟨y0, y1, y2, y3⟩ := b7.cells
          obtain ⟨f0, f1, f2, f3⟩ := b7.frees
          go_wp2_with fail
          exact bodyPost_ret ((b7.store _).results rfl _ rfl) rfl ⟨by rw [HV.out], by rw [HE.out]; exact jother h7 (by omega) _ _ _ _, jgstore G7 (Nat.le_refl _) _ _ _ _⟩
      | false =>
        obtain ⟨Z, hZ⟩ : ∃ Z, WSet.mk a b c d = Z := ⟨_, rfl⟩
        rw [hZ] at hB1 HI
        have HV : Hid (clsV t s0' = Z) := Lib.hid (by unfold clsV; rw [hq, HI.out]; rfl)
        clear hq hZ
        have HSE2 := HSE.out
        clear HSE
        go_wp2_with fail
        refine HSE2.mono ?_
        rintro e w5 ⟨rfl, hb3⟩
        have h5 := hD.out.below hb3 hD.out.lt
        have c5 := hB1.out.below hb3 hB1.out.lt
        have b5 := hB0.out.below hb3 hB0.out.lt
        have G5 := jgbe hG.out hb3
        clear hb3
        obtain ⟨z, hz⟩ : ∃ z, Z.isNone = z := ⟨_, rfl⟩
        obtain ⟨k0, k1, k2, k3⟩ := c5.cells
        obtain ⟨s0, s1, s2, s3⟩ := c5.frees
        cases z with
        | true =>
          have HE : Hid (clsR t s0' = needR t (failR s 3 s.k) [93]) := Lib.hid (by unfold clsR clsEnd; rw [HV.out, if_pos (of_decide_eq_true hz), HI.out])
          obtain ⟨x0, x1, x2, x3⟩ := h5.cells
          go_wp2_with fail
          refine (fail_any t s x4 x5 x6 x7 3 s.k _ B h5).mono ?_
          rintro e w6 ⟨rfl, h6, hg6⟩
          have c6 := c5.kept hg6 (jne (by omega))
          have b6 := b5.kept hg6 (jne hlt)
          have G6 := jgtrans G5 hg6
          clear h5 c5 b5 G5 hg6 k0 k1 k2 k3 s0 s1 s2 s3 x0 x1 x2 x3
          go_wp2_with fail
          refine (need_any t _ x4 x5 x6 x7 [93] (by simp) _ B h6).mono ?_
          rintro e w7 ⟨rfl, h7, hg7⟩
          have c7 := c6.kept hg7 (jne (by omega))
          have b7 := b6.kept hg7 (jne hlt)
          have G7 := jgtrans G6 hg7
          obtain ⟨k0, k1, k2, k3⟩ := c7.cells
          obtain ⟨y0, y1, y2, y3⟩ := b7.cells
          obtain ⟨f0, f1, f2, f3⟩ := b7.frees
          clear h6 c6 b6 G6 hg7
          go_wp2_with fail
          exact bodyPost_ret ((b7.store _).results rfl _ rfl) rfl ⟨by rw [HV.out], by rw [HE.out]; exact jother h7 (by omega) _ _ _ _, jgstore G7 (Nat.le_refl _) _ _ _ _⟩
        | false =>
          have HE : Hid (clsR t s0' = needR t s [93]) := Lib.hid (by unfold clsR clsEnd; rw [HV.out, if_neg (of_decide_eq_false hz), HI.out])
          go_wp2_with fail
          refine (need_any t _ x4 x5 x6 x7 [93] (by simp) _ B h5).mono ?_
          rintro e w7 ⟨rfl, h7, hg7⟩
          have c7 := c5.kept hg7 (jne (by omega))
          have b7 := b5.kept hg7 (jne hlt)
          have G7 := jgtrans G5 hg7
          clear h5 c5 b5 G5 hg7 k0 k1 k2 k3 s0 s1 s2 s3
          obtain ⟨k0, k1, k2, k3⟩ := c7.cells
          obtain ⟨y0, y1, y2, y3⟩ := b7.cells
          obtain ⟨f0, f1, f2, f3⟩ := b7.frees
          go_wp2_with fail
          exact bodyPost_ret ((b7.store _).results rfl _ rfl) rfl ⟨by rw [HV.out], by rw [HE.out]; exact jother h7 (by omega) _ _ _ _, jgstore G7 (Nat.le_refl _) _ _ _ _⟩
end Go.Proofs.YtdnbnigebejgjaaGreatDoor
