/-
  The law PatternWrites, for every tree.
-/
import Derived.Test.YtdnbnigebejgjaaGreatDoorHW7
import Derived.Test.YtdnbnigebejgjaaGreatDoorHJW11
import Derived.Test.YtdnbnigebejgjaaGreatDoorHJW12
import Derived.Test.YtdnbnigebejgjaaGreatDoorHRef
import Derived.Test.YtdnbnigebejgjaaGreatDoorHBits
import Derived.Deep.RegionHeld3
namespace Go.Proofs.YtdnbnigebejgjaaGreatDoor
open Go.RowKit Go.Shelf
attribute [local go_sem] w_0 w_1 w_2 w_3
theorem held_two {N : Nat} {W wx : World} {A B t : Nat} {x0 x1 x2 x3 y0 y1 y2 y3 : Value} (hN : W.heap.size = N) (hA : CBlk t W A [x0, x1, x2, x3]) (hB : CBlk t W B [y0, y1, y2, y3]) (hb : Below N W wx) :
    Below N W wx ∧ (wx.cell? ⟨A, 0, none⟩ = some x0 ∧ wx.cell? ⟨A, 1, none⟩ = some x1 ∧ wx.cell? ⟨A, 2, none⟩ = some x2 ∧ wx.cell? ⟨A, 3, none⟩ = some x3) ∧ wx.cell? ⟨B, 0, none⟩ = some y0 ∧ wx.cell? ⟨B, 1, none⟩ = some y1 ∧ wx.cell? ⟨B, 2, none⟩ = some y2 ∧ wx.cell? ⟨B, 3, none⟩ = some y3 := by
  have a := hA.below hb (hN ▸ hA.lt)
  have b := hB.below hb (hN ▸ hB.lt)
  exact ⟨hb, ⟨a.cell 0 (by simp), a.cell 1 (by simp), a.cell 2 (by simp), a.cell 3 (by simp)⟩, b.cell 0 (by simp), b.cell 1 (by simp), b.cell 2 (by simp), b.cell 3 (by simp)⟩
theorem sameTree_same (L : List ND) (hL : L.length < 1000000000) (v u : Value) (b e : Bool) (g : Int) (W : World) (h : NdsAt W v L) (h' : NdsAt W u L) :
    Calls Tryz.prog 9 #[.agg #[v, .bool b, .bool e, .int .i64 g], .agg #[u, .bool b, .bool e, .int .i64 g]] W fun x w' => x = .returned (.bool true) ∧ Below W.heap.size W w' := by
  refine (sameTree_any L L hL v u b e b e g g W h h').mono ?_
  rintro x w' ⟨rfl, hb⟩
  exact ⟨by simp, hb⟩
set_option maxHeartbeats 8000000 in
set_option maxRecDepth 100000 in
theorem writes_law (L : List ND) (v : Value) (bb en : Bool) (g : Int) (W : World) (hTS : TS W) (h : NdsAt W v L) :
    Calls Tryz.prog 4 #[.agg #[v, .bool bb, .bool en, .int .i64 g]] W fun e w' => e = .returned (.bool true) ∧ Below W.heap.size W w' := by
  obtain ⟨p, cap, rfl, hcap, hN⟩ := h
  have HA := Lib.hid (⟨p, cap, rfl, hcap, hN⟩ : NdsAt W (.slice p L.length cap) L)
  have HAW := Lib.hid fun w h => awake_any w h
  have HTS := Lib.hid hTS
  obtain ⟨W1, hW1⟩ : ∃ W1, W.alloc (.cells #[.slice p L.length cap, .bool bb, .bool en, .int .i64 g] 25) = W1 := ⟨_, rfl⟩
  have hB1 : Below W.heap.size W W1 := by rw [← hW1]; exact (Below.refl _ W).alloc (Nat.le_refl _) _
  have s1 : CBlk 25 W1 W.heap.size [.slice p L.length cap, .bool bb, .bool en, .int .i64 g] := by rw [← hW1]; exact CBlk.new _ W _
  have hz1 : W1.heap.size = W.heap.size + 1 := by rw [← hW1]; simp
  obtain ⟨c0, c1, c2, c3⟩ : W1.cell? ⟨W.heap.size, 0, none⟩ = _ ∧ W1.cell? ⟨W.heap.size, 1, none⟩ = _ ∧ W1.cell? ⟨W.heap.size, 2, none⟩ = _ ∧ W1.cell? ⟨W.heap.size, 3, none⟩ = _ := ⟨s1.cell 0 (by simp), s1.cell 1 (by simp), s1.cell 2 (by simp), s1.cell 3 (by simp)⟩
  clear hTS hcap hN
  by_cases hl : 210 < L.length
  · have a1 : decide ((210 : Int) < (L.length : Int)) = true := decide_eq_true (by omega)
    have a2 : decide (210 < L.length) = true := decide_eq_true hl
    go_enter Tryz.func4, Tryz.ntmps4
    go_wp2_with fail
    refine (HAW.out _ (HTS.out.below hB1)).mono ?_
    rintro x w2 ⟨rfl, hb2⟩
    go_wp2_with fail
    go_ret
    exact ⟨rfl, hB1.trans (hb2.mono hB1.size)⟩
  have a1 : decide ((210 : Int) < (L.length : Int)) = false := decide_eq_false (by omega)
  have a2 : decide (210 < L.length) = false := decide_eq_false hl
  have HO := Lib.hid fun v w h => ownTree_any L (by omega) v bb en g w h
  have hT1 := fun v w h h2 => text_any L (by omega) v bb en g w h h2
  have hT2 := fun v w h => text19T_any L (by omega) v bb en g w h
  have hC1 := fun v w h => check_any L (by omega) v bb en g w h
  have hC2 := fun v w h => refCheck_any L (by omega) v bb en g w h
  have hM1 := fun v w h => atoms_any L (by omega) v bb en g w h
  have hM2 := fun v w h => atoms19_any L (by omega) v bb en g w h
  have hP1 := fun v w h => alphabet_any L (by omega) v bb en g w h
  have hP2 := fun v w h => alphabet19_any L (by omega) v bb en g w h
  have HSM := Lib.hid fun v u w h h' => sameTree_same L (by omega) v u bb en g w h h'
  obtain ⟨⟨tx, te⟩, ht⟩ : ∃ x, txtR L bb en g = x := ⟨_, rfl⟩
  obtain ⟨ck, hck⟩ : ∃ x, chkR L g = x := ⟨_, rfl⟩
  obtain ⟨⟨am, ae⟩, ham⟩ : ∃ x, atmR L g = x := ⟨_, rfl⟩
  obtain ⟨⟨⟨s0, s1', s2, s3⟩, pe⟩, hal⟩ : ∃ x, alpR L g = x := ⟨_, rfl⟩
  rw [ht] at hT1 hT2
  rw [hck] at hC1 hC2
  rw [ham] at hM1 hM2
  rw [hal] at hP1 hP2
  dsimp only at hT1 hT2 hC1 hC2 hM1 hM2 hP1 hP2
  have HT1 := Lib.hid hT1
  have HT2 := Lib.hid hT2
  have HC1 := Lib.hid hC1
  have HC2 := Lib.hid hC2
  have HM1 := Lib.hid hM1
  have HM2 := Lib.hid hM2
  have HP1 := Lib.hid hP1
  have HP2 := Lib.hid hP2
  have HB1 := Lib.hid hB1
  have HS := Lib.hid s1
  have HZ := Lib.hid hz1
  have HA1 := Lib.hid (NdsAt.below HA.out hB1 (Nat.le_refl _))
  clear hT1 hT2 hC1 hC2 hM1 hM2 hP1 hP2 ht hck ham hal hl hB1 s1 hz1
  go_enter Tryz.func4, Tryz.ntmps4
  go_wp2_with fail
  refine (HO.out _ _ HA1.out).mono ?_
  rintro e w2 ⟨⟨u, rfl, hu⟩, hb2⟩
  obtain ⟨p2, cp2, rfl, hcp2, hn2⟩ := hu
  have HU := Lib.hid (⟨p2, cp2, rfl, hcp2, hn2⟩ : NdsAt w2 (.slice p2 L.length cp2) L)
  clear c0 c1 c2 c3 hcp2 hn2
  go_upto_region 4 with fail
  have hB2 := HB1.out.trans (hb2.mono HB1.out.size)
  have x1 := (HS.out.below hb2 HS.out.lt).alloc (.cells #[.slice p2 L.length cp2, .bool bb, .bool en, .int .i64 g] 25)
  have x2 := CBlk.new 25 w2 [.slice p2 L.length cp2, .bool bb, .bool en, .int .i64 g]
  have hB3 := hB2.alloc hB2.size (.cells #[.slice p2 L.length cp2, .bool bb, .bool en, .int .i64 g] 25)
  have hU3 : NdsAt (w2.alloc (.cells #[.slice p2 L.length cp2, .bool bb, .bool en, .int .i64 g] 25)) (.slice p2 L.length cp2) L := NdsAt.below HU.out ((Below.refl _ w2).alloc (Nat.le_refl _) _) (Nat.le_refl _)
  obtain ⟨N2, hN2⟩ : ∃ N2, w2.heap.size = N2 := ⟨_, rfl⟩
  obtain ⟨W2, hW2⟩ : ∃ W2, w2.alloc (.cells #[.slice p2 L.length cp2, .bool bb, .bool en, .int .i64 g] 25) = W2 := ⟨_, rfl⟩
  have hzz : W2.heap.size = N2 + 1 := by rw [← hW2, ← hN2]; simp
  rw [hN2, hW2] at x2
  rw [hW2] at x1 hB3 hU3
  have HX1 := Lib.hid x1
  have HX2 := Lib.hid x2
  have HNX : Hid (∀ w, Below W2.heap.size W2 w → NdsAt w (.slice p L.length cap) L ∧ NdsAt w (.slice p2 L.length cp2) L ∧ TS w ∧ Below W.heap.size W w) := Lib.hid fun w hb => ⟨NdsAt.below HA.out (hB3.trans (hb.mono hB3.size)) (Nat.le_refl _), NdsAt.below hU3 hb (Nat.le_refl _), HTS.out.below (hB3.trans (hb.mono hB3.size)), hB3.trans (hb.mono hB3.size)⟩
  have HNC : Hid (∀ w, Below W2.heap.size W2 w → (w.cell? ⟨W.heap.size, 0, none⟩ = some (.slice p L.length cap) ∧ w.cell? ⟨W.heap.size, 1, none⟩ = some (.bool bb) ∧ w.cell? ⟨W.heap.size, 2, none⟩ = some (.bool en) ∧ w.cell? ⟨W.heap.size, 3, none⟩ = some (.int .i64 g)) ∧ w.cell? ⟨N2, 0, none⟩ = some (.slice p2 L.length cp2) ∧ w.cell? ⟨N2, 1, none⟩ = some (.bool bb) ∧ w.cell? ⟨N2, 2, none⟩ = some (.bool en) ∧ w.cell? ⟨N2, 3, none⟩ = some (.int .i64 g)) := Lib.hid fun w hb => (held_two rfl x1 x2 hb).2
  have hb := Below.refl W2.heap.size W2
  obtain ⟨⟨c0, c1, c2, c3⟩, d0, d1, d2, d3⟩ := HNC.out _ hb
  rw [hW2, hN2]
  clear x1 x2 hB3 hU3 hB2 hb2 HU hN2 hW2 HB1 HZ HA1 hW1 HS HA
  go_wp2_with fail
  refine (HT1.out _ _ (HNX.out _ hb).2.1 (HNX.out _ hb).2.2.1).mono ?_
  rintro e w4 ⟨rfl, hb4⟩
  clear c0 c1 c2 c3 d0 d1 d2 d3
  obtain ⟨⟨c0, c1, c2, c3⟩, d0, d1, d2, d3⟩ := HNC.out _ hb4
  go_wp2_with fail
  refine (HT2.out _ _ (HNX.out _ hb4).1).mono ?_
  rintro e w5 ⟨rfl, hb5⟩
  have hb5 := hb4.trans (hb5.mono hb4.size)
  clear c0 c1 c2 c3 d0 d1 d2 d3 hb4 hb
  go_wp2_with fail
  have h5 := HNC.out _ hb5
  obtain ⟨N, hNN⟩ : ∃ N, w5.heap.size = N := ⟨_, rfl⟩
  have hN := Lib.hid hNN
  have y1 := HX1.out.below hb5 HX1.out.lt
  have y2 := HX2.out.below hb5 HX2.out.lt
  have HX1 := Lib.hid y1
  have HX2 := Lib.hid y2
  have hNb : ∀ wx, Below N w5 wx → Below W2.heap.size W2 wx := fun wx h => hb5.trans (h.mono (hNN ▸ hb5.size))
  have HNB := Lib.hid hNb
  have HCA := Lib.hid fun wx h => HC1.out (.slice p2 L.length cp2) wx (HNX.out _ (hNb wx h)).2.1
  have HCB := Lib.hid fun wx h => HC2.out (.slice p L.length cap) wx (HNX.out _ (hNb wx h)).1
  have e1 : (ck != ck) = false := by simp
  have e2 : (te != te) = false := by simp
  obtain ⟨⟨c0, c1, c2, c3⟩, d0, d1, d2, d3⟩ := h5
  clear y1 y2 hNb hNN
  go_region_held3 (fun wx => Below N w5 wx ∧ (wx.cell? ⟨W.heap.size, 0, none⟩ = some (.slice p L.length cap) ∧ wx.cell? ⟨W.heap.size, 1, none⟩ = some (.bool bb) ∧ wx.cell? ⟨W.heap.size, 2, none⟩ = some (.bool en) ∧ wx.cell? ⟨W.heap.size, 3, none⟩ = some (.int .i64 g)) ∧ wx.cell? ⟨N2, 0, none⟩ = some (.slice p2 L.length cp2) ∧ wx.cell? ⟨N2, 1, none⟩ = some (.bool bb) ∧ wx.cell? ⟨N2, 2, none⟩ = some (.bool en) ∧ wx.cell? ⟨N2, 3, none⟩ = some (.int .i64 g))
    ((go_split_ands; refine held_two hN.out HX1.out HX2.out ?_; have hN := hN.out; repeat' (first | (with_reducible assumption) | (with_reducible exact Below.refl _ _) | (with_reducible refine Below.drew ?_) | (refine Below.transS (wx := ?_) hN ?_ ?_; rotate_left 2; assumption))))
    (first
      | (go_at_call 13; (with_reducible refine (HCA.out _ ?_).mono ?_); (focus (have hN := hN.out; repeat' (first | (with_reducible assumption) | (with_reducible exact Below.refl _ _) | (with_reducible refine Below.drew ?_) | (refine Below.transS (wx := ?_) hN ?_ ?_; rotate_left 2; assumption)))); rintro e w' ⟨rfl, hb⟩)
      | (go_at_call 14; (with_reducible refine (HCB.out _ ?_).mono ?_); (focus (have hN := hN.out; repeat' (first | (with_reducible assumption) | (with_reducible exact Below.refl _ _) | (with_reducible refine Below.drew ?_) | (refine Below.transS (wx := ?_) hN ?_ ?_; rotate_left 2; assumption)))); rintro e w' ⟨rfl, hb⟩))
  rename_i hHeld
  have hb6 := HNB.out _ hHeld.1
  rename World => w6
  clear hHeld c0 c1 c2 c3 d0 d1 d2 d3 HNB HCA HCB hb5 HX1 HX2 hN
  obtain ⟨⟨c0, c1, c2, c3⟩, d0, d1, d2, d3⟩ := HNC.out _ hb6
  go_wp2_with fail
  refine (HM1.out _ _ (HNX.out _ hb6).2.1).mono ?_
  rintro e w7 ⟨rfl, hb7⟩
  have hb7 := hb6.trans (hb7.mono hb6.size)
  clear c0 c1 c2 c3 d0 d1 d2 d3 hb6
  obtain ⟨⟨c0, c1, c2, c3⟩, d0, d1, d2, d3⟩ := HNC.out _ hb7
  go_wp2_with fail
  refine (HM2.out _ _ (HNX.out _ hb7).1).mono ?_
  rintro e w8 ⟨rfl, hb8⟩
  have hb8 := hb7.trans (hb8.mono hb7.size)
  clear c0 c1 c2 c3 d0 d1 d2 d3 hb7
  obtain ⟨⟨c0, c1, c2, c3⟩, d0, d1, d2, d3⟩ := HNC.out _ hb8
  go_wp2_with fail
  refine (HP1.out _ _ (HNX.out _ hb8).2.1).mono ?_
  rintro e w9 ⟨rfl, hb9⟩
  have hb9 := hb8.trans (hb9.mono hb8.size)
  clear c0 c1 c2 c3 d0 d1 d2 d3 hb8
  go_upto_region 11 with fail
  have q9 := Blk.new w9 ⟨s0, s1', s2, s3⟩
  have hb10 := hb9.alloc hb9.size (.cells #[.int .u64 s0.toNat, .int .u64 s1'.toNat, .int .u64 s2.toNat, .int .u64 s3.toNat] 41)
  dsimp only at q9
  obtain ⟨N9, hN9⟩ : ∃ N9, w9.heap.size = N9 := ⟨_, rfl⟩
  rw [hN9] at q9 ⊢
  generalize w9.alloc (.cells #[.int .u64 s0.toNat, .int .u64 s1'.toNat, .int .u64 s2.toNat, .int .u64 s3.toNat] 41) = w10 at q9 hb10 ⊢
  clear hb9 hN9
  obtain ⟨⟨c0, c1, c2, c3⟩, d0, d1, d2, d3⟩ := HNC.out _ hb10
  go_wp2_with fail
  refine (HP2.out _ _ (HNX.out _ hb10).1).mono ?_
  rintro e w11 ⟨rfl, hb11⟩
  have q11 := q9.below hb11 q9.lt
  have hb11 := hb10.trans (hb11.mono hb10.size)
  clear c0 c1 c2 c3 d0 d1 d2 d3 hb10 q9
  go_upto_region 12 with fail
  have q12 := q11.alloc (.cells #[.int .u64 s0.toNat, .int .u64 s1'.toNat, .int .u64 s2.toNat, .int .u64 s3.toNat] 41)
  have r12 := Blk.new w11 ⟨s0, s1', s2, s3⟩
  have hb12 := hb11.alloc hb11.size (.cells #[.int .u64 s0.toNat, .int .u64 s1'.toNat, .int .u64 s2.toNat, .int .u64 s3.toNat] 41)
  dsimp only at r12
  obtain ⟨N11, hN11⟩ : ∃ N11, w11.heap.size = N11 := ⟨_, rfl⟩
  rw [hN11] at r12 ⊢
  generalize w11.alloc (.cells #[.int .u64 s0.toNat, .int .u64 s1'.toNat, .int .u64 s2.toNat, .int .u64 s3.toNat] 41) = w12 at q12 r12 hb12 ⊢
  clear hb11 hN11 q11
  obtain ⟨⟨c0, c1, c2, c3⟩, d0, d1, d2, d3⟩ := HNC.out _ hb12
  obtain ⟨q0, q1, q2, q3⟩ := q12.cells4
  obtain ⟨r0, r1, r2, r3⟩ := r12.cells4
  have e5 : (am == am) = true := by simp
  have e6 : (ae == ae) = true := by simp
  have e7 : (pe == pe) = true := by simp
  have e8 : ∀ x : BitVec 64, ((x.toNat : Int) == (x.toNat : Int)) = true := fun x => by simp
  have e9 := fun w => eq_sets (s0.toNat : Int) (s1'.toNat : Int) (s2.toNat : Int) (s3.toNat : Int) (s0.toNat : Int) (s1'.toNat : Int) (s2.toNat : Int) (s3.toNat : Int) w
  simp only [e8, Bool.and_self] at e9
  have HQ := Lib.hid (HSM.out _ _ w12 (HNX.out _ hb12).2.1 (HNX.out _ hb12).1)
  clear q12 r12
  go_wp2_with fail
  refine HQ.out.mono ?_
  rintro e w13 ⟨rfl, hb13⟩
  have hb13 := hb12.trans (hb13.mono hb12.size)
  go_wp2_with fail
  refine (HAW.out _ (HNX.out _ hb13).2.2.1).mono ?_
  rintro e w14 ⟨rfl, hb14⟩
  have hb14 := hb13.trans (hb14.mono hb13.size)
  go_wp2_with fail
  go_ret
  exact ⟨rfl, (HNX.out _ hb14).2.2.2⟩
end Go.Proofs.YtdnbnigebejgjaaGreatDoor
