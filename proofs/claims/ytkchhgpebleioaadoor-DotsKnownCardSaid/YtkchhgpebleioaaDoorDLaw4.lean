/-
  The laws DotsBack and DotsCommon, for every argument. The library's variable of the search must hold a number.
-/
import Derived.Test.YtkchhgpebleioaaDoorDMade
import Derived.Test.YtkchhgpebleioaaDoorDPure4
namespace Go.Proofs.YtkchhgpebleioaaDoor
open Go.RowKit
theorem strs_take {W : World} {p : Option Addr} {c : Nat} {L : List (List UInt8)} {k : Nat} (h : StrsAt W (.slice p L.length c) L) (hk : k ≤ L.length) : StrsAt W (.slice p k c) (L.take k) := by
  obtain ⟨q, d, e, h⟩ := h
  injection e with e1 e2 e3
  subst e1 e3
  refine ⟨_, _, by rw [List.length_take, Nat.min_eq_left hk], fun j hj => ?_⟩
  rw [List.length_take, Nat.min_eq_left hk, Nat.mul_one] at hj
  obtain ⟨b, off, e4, e5, e6⟩ := h j (by omega)
  refine ⟨b, off, e4, e5, ?_⟩
  rw [e6]
  unfold strC
  dsimp only
  rw [List.getD_eq_getElem?_getD, List.getD_eq_getElem?_getD, List.getElem?_take_of_lt hj]
theorem put_small {L : List (List UInt8)} {o : Bool} (hn : L.length ≤ 9) (h : ∀ x ∈ L, x.length ≤ 3) : (putL L o).length ≤ 128 := by
  have := put_len (o := o) h
  omega
theorem put_pos (L : List (List UInt8)) (o : Bool) : 0 < (putL L o).length := by
  have := put_path L o
  cases h : putL L o with
  | nil => rw [h] at this; simp [pathB] at this
  | cons c r => simp
/-- Make of a list of names. -/
theorem lmake_ok (L : List (List UInt8)) (o : Bool) (T : List UInt8) (hn : L.length < 49000) (hL : ∀ x ∈ L, x.length < 49000) (hT : makeR L o = .inr T) (v : Value) (w : World) (hv : StrsAt w v L) :
    Calls Tryd.prog 21 #[v, .bool o] w fun e w' => e = .returned (.tuple #[.string ⟨T.toArray⟩, .int .i64 0]) ∧ Below w.heap.size w w' := by
  have := make_any L o hn hL v w hv
  rw [hT] at this
  exact this
theorem last_open (p : List UInt8) (n : Nat) (hn : n < p.length) (h : p.length - 1 = n) : ((p[n]'hn).toNat == 47) = openB p := by
  subst h
  rw [openB_last, Bool.eq_iff_iff, beq_iff_eq, beq_iff_eq, List.getLast?_eq_getElem?, List.getElem?_eq_getElem hn]
  constructor
  · intro e
    rw [show p[p.length - 1] = 47 from UInt8.toNat_inj.1 e]
  · intro e
    injection e with e
    rw [e]
    rfl
section
attribute [local go_sem] ba_get
set_option maxRecDepth 100000 in
set_option maxHeartbeats 16000000 in
theorem dotsBack_any (p : Option Addr) (n c : Nat) (f : Nat → Int) (o : Bool) (x : Int) (w : World) (hM : ML w) (hC : CellsIn w p (n * 1) (intC f)) :
    Calls Tryd.prog 8 #[.slice p n c, .bool o, .int .i64 x] w fun e w' => e = .returned (.bool true) ∧ Below w.heap.size w w' := by
  have HM := Lib.hid hM
  have hmade := made_any p n c f w hC
  have hmade2 := fun (p : Option Addr) (c : Nat) (W : World) (h : CellsIn W p (1 * 1) (intC fun _ => x)) => made_any p 1 c (fun _ => x) W h
  rw [show madeL 1 (fun _ => x) = [wordAt x] from rfl] at hmade2
  have hN := made_names n f
  have hS := made_short n f
  have hLl := made_len n f
  have hy := words_good _ (wordAt_mem x)
  obtain ⟨y, hyy⟩ : ∃ y, wordAt x = y := ⟨_, rfl⟩
  rw [hyy] at hmade2 hy
  obtain ⟨L, hL⟩ : ∃ L, madeL n f = L := ⟨_, rfl⟩
  rw [hL] at hmade hN hS hLl
  have hl8 : L.length ≤ 8 := by omega
  have hS49 : ∀ z ∈ L, z.length < 49000 := fun z hz => by have := hS z hz; omega
  have hP := put_small (o := o) (by omega) hS
  have hD := put_small (o := false) (by omega) hS
  have hNy := names_snoc hN hy.1
  have hSy : ∀ z ∈ L ++ [y], z.length ≤ 3 := fun z hz => by
    rcases List.mem_append.1 hz with hz | hz
    · exact hS z hz
    · rw [List.mem_singleton.1 hz]; exact hy.2
  have hQ := put_small (L := L ++ [y]) (o := false) (by simp; omega) hSy
  have MK1 := Lib.hid (fun v W (h : StrsAt W v L) => lmake_ok L o _ (by omega) hS49 (make_names hN o hP) v W h)
  have MK2 := Lib.hid (fun v W (h : StrsAt W v L) => lmake_ok L false _ (by omega) hS49 (make_names hN false hD) v W h)
  have hsg := fun W (h : ML W) => segs_any (putL L o) (by omega) W h
  rw [segs_names_put hN o hP] at hsg
  have hjn := fun W (h : ML W) => join_any (putL L false) y (by omega) (by have := hy.2; omega) W h
  rw [join_put hN hy.1 hD hQ] at hjn
  have hpr := fun W (h : ML W) => parent_any (putL (L ++ [y]) false) (by omega) W h
  rw [parent_put hN hy.1 hQ] at hpr
  have hpre1 : L.isPrefixOf (L ++ [y]) = true := by rw [List.isPrefixOf_iff_prefix]; exact List.prefix_append _ _
  have hpre2 : L.isPrefixOf L = true := by rw [List.isPrefixOf_iff_prefix]; exact List.prefix_refl _
  have U1 := Lib.hid (fun W (h : ML W) => lunder_ok (putL (L ++ [y]) false) (putL L false) true (by omega) (by omega) (by rw [under_put_R hNy hN false hQ hD, hpre1]) W h)
  have U2 := Lib.hid (fun W (h : ML W) => lunder_ok (putL L o) (putL L false) true (by omega) (by omega) (by rw [under_put_R hN hN o hP hD, hpre2]) W h)
  -- above each directory
  have hk : ∀ k, k ≤ L.length → Names (L.take k) ∧ (putL (L.take k) false).length ≤ 128 := fun k hk => ⟨com_names hN k, put_small (by rw [List.length_take]; omega) fun z hz => hS z (List.take_subset _ _ hz)⟩
  have MK := Lib.hid (fun (k : Nat) (hk2 : k ≤ L.length) v W (h : StrsAt W v (L.take k)) => lmake_ok (L.take k) false _ (by rw [List.length_take]; omega) (fun z hz => hS49 z (List.take_subset _ _ hz)) (make_names (hk k hk2).1 false (hk k hk2).2) v W h)
  have V1 := Lib.hid (fun (k : Nat) (hk2 : k ≤ L.length) W (h : ML W) => lunder_ok (putL L o) (putL (L.take k) false) true (by omega) (by have := (hk k hk2).2; omega) (by rw [under_put_R hN (hk k hk2).1 o hP (hk k hk2).2, prefix_take]) W h)
  have V2 := Lib.hid (fun (k : Nat) (hk2 : k ≤ L.length) W (h : ML W) => lunder_ok (putL L false) (putL (L.take k) false) true (by omega) (by have := (hk k hk2).2; omega) (by rw [under_put_R hN (hk k hk2).1 false hD (hk k hk2).2, prefix_take]) W h)
  have V3 := Lib.hid (fun (k : Nat) (hk2 : k ≤ L.length) W (h : ML W) => lunder_ok (putL (L.take k) false) (putL L false) (k == L.length) (by have := (hk k hk2).2; omega) (by omega) (by rw [under_put_R (hk k hk2).1 hN false (hk k hk2).2 hD, prefix_back L k hk2]) W h)
  have hop := put_open hN o
  have hpos := put_pos L o
  obtain ⟨P, hPP⟩ : ∃ P, putL L o = P := ⟨_, rfl⟩
  obtain ⟨D, hDD⟩ : ∃ D, putL L false = D := ⟨_, rfl⟩
  obtain ⟨Q, hQQ⟩ : ∃ Q, putL (L ++ [y]) false = Q := ⟨_, rfl⟩
  rw [hPP] at MK1 hsg U2 V1 hop hpos hP
  rw [hDD] at MK2 hjn hpr U1 U2 V2 V3
  rw [hQQ] at hjn hpr U1
  obtain ⟨m9, hm9⟩ : ∃ m9, P.length - 1 = m9 := ⟨_, rfl⟩
  have hlt9 : m9 < P.length := by omega
  have hlast := last_open P m9 hlt9 hm9
  obtain ⟨b0, hb0⟩ : ∃ b0, (L == []) = b0 := ⟨_, rfl⟩
  have hb1 : ((L.length : Int) == 0) = b0 := by
    rw [← hb0, Bool.eq_iff_iff, beq_iff_eq, beq_iff_eq]
    constructor
    · intro e; exact List.eq_nil_of_length_eq_zero (by omega)
    · intro e; rw [e]; rfl
  have e47 : (((P[m9]'hlt9).toNat : Int) == 47) = (o || b0) := by rw [i47, hlast, hop, hb0]
  have q1 : IntKind.i64.wrap ((P.length : Int) - 1) = (m9 : Int) := by rw [IntKind.wrap_i64]; omega
  have q3 : (m9 : Int) < (P.length : Int) := by omega
  have SG := Lib.hid hsg
  have JN := Lib.hid hjn
  have PR := Lib.hid hpr
  have MD := Lib.hid hmade
  have MD2 := Lib.hid hmade2
  have HL8 := Lib.hid hl8
  have HE47 := Lib.hid e47
  have HB1 := Lib.hid hb1
  clear hmade hmade2 hN hS hLl hy hyy hL hl8 hS49 hP hD hNy hSy hQ hsg hjn hpr hpre1 hpre2 hk hop hpos hPP hDD hQQ hm9 hlast hb0 hb1 e47 hM hC
  go_enter Tryd.func8, Tryd.ntmps8
  go_wp2_with fail
  refine MD.out.mono ?_
  rintro e w1 ⟨v, rfl, hrow, hB⟩
  have HST := Lib.hid (strs_of_own hrow)
  obtain ⟨pl, cl, rfl, hcl, -⟩ := own_take hrow (n := 0) (Nat.zero_le _)
  clear hrow
  go_wp2_with fail
  refine (MK1.out _ _ HST.out).mono ?_
  rintro e w2 ⟨rfl, hb⟩
  have HST := Lib.hid (HST.out.below hb (Nat.le_refl _))
  have hB := hB.trans (hb.mono hB.size)
  clear hb
  go_wp2_with fail
  refine (SG.out _ (HM.out.below hB)).mono ?_
  rintro e w3 ⟨⟨v3, rfl, hrow3⟩, hb⟩
  have HST := Lib.hid (HST.out.below hb (Nat.le_refl _))
  have HST3 := Lib.hid (strs_of_own hrow3)
  obtain ⟨p3, c3, rfl⟩ := own_slice hrow3
  have hB := hB.trans (hb.mono hB.size)
  clear hb hrow3
  go_wp2_with fail
  refine (MK2.out _ _ HST.out).mono ?_
  rintro e w4 ⟨rfl, hb⟩
  have HST := Lib.hid (HST.out.below hb (Nat.le_refl _))
  have HST3 := Lib.hid (HST3.out.below hb (Nat.le_refl _))
  have hB := hB.trans (hb.mono hB.size)
  clear hb
  go_wp2_with fail
  have hba : Below w4.heap.size w4 (w4.alloc (.cells #[.int .i64 x] 3)) := (Below.refl _ _).alloc (Nat.le_refl _) _
  refine (MD2.out _ _ _ (fun j hj => by
    obtain rfl : j = 0 := by omega
    exact ⟨w4.heap.size, 0, rfl, by simp, by rw [World.cell?_alloc_new]; rfl⟩)).mono ?_
  rintro e w5 ⟨v5, rfl, hrow5, hb⟩
  have HST := Lib.hid ((HST.out.below hba (Nat.le_refl _)).below hb (Nat.le_refl _))
  have HST3 := Lib.hid ((HST3.out.below hba (Nat.le_refl _)).below hb (Nat.le_refl _))
  have hB := (hB.trans (hba.mono hB.size)).trans (hb.mono (by have := hB.size; simp; omega))
  obtain ⟨p5, c5, rfl, hC5⟩ := strs_of_own hrow5
  obtain ⟨b5, o5, rfl, hl5, hc5⟩ := str_cell hC5 (Below.refl _ _) (k := 0) (by simp)
  simp only [List.getElem_cons_zero, Nat.add_zero] at hc5
  clear hb hrow5 hC5 hba
  go_wp2_with fail
  refine (JN.out _ (HM.out.below hB)).mono ?_
  rintro e w6 ⟨rfl, hb⟩
  unfold strR
  dsimp only
  have HST := Lib.hid (HST.out.below hb (Nat.le_refl _))
  have HST3 := Lib.hid (HST3.out.below hb (Nat.le_refl _))
  have hB := hB.trans (hb.mono hB.size)
  clear hb hc5
  go_wp2_with fail
  refine (PR.out _ (HM.out.below hB)).mono ?_
  rintro e w7 ⟨rfl, hb⟩
  unfold strR
  dsimp only
  have HST := Lib.hid (HST.out.below hb (Nat.le_refl _))
  have HST3 := Lib.hid (HST3.out.below hb (Nat.le_refl _))
  have hB := hB.trans (hb.mono hB.size)
  clear hb
  go_wp2_with fail
  refine (sameTexts_any L (by have := HL8.out; omega) _ _ _ HST3.out HST.out).mono ?_
  rintro e w8 ⟨rfl, hb⟩
  have HST := Lib.hid (HST.out.below hb (Nat.le_refl _))
  have hB := hB.trans (hb.mono hB.size)
  clear hb HST3
  go_wp2_with fail
  refine (U1.out _ (HM.out.below hB)).mono ?_
  rintro e w9 ⟨rfl, hb⟩
  have HST := Lib.hid (HST.out.below hb (Nat.le_refl _))
  have hB := hB.trans (hb.mono hB.size)
  clear hb
  go_wp2_with fail
  refine (U2.out _ (HM.out.below hB)).mono ?_
  rintro e w10 ⟨rfl, hb⟩
  have HST := Lib.hid (HST.out.below hb (Nat.le_refl _))
  have HB := Lib.hid (hB.trans (hb.mono hB.size))
  clear hb hB
  have e47 := HE47.out
  have hb1 := HB1.out
  cases o <;> cases b0 <;>
  · simp only [Bool.or_false, Bool.or_true] at e47
    go_wp2_with fail
    go_loopw [19] (fun i wr => ∃ k : Nat, k ≤ L.length + 1 ∧ i = .int .i64 k ∧ Below w10.heap.size w10 wr) (fun i _ => L.length + 1 - (intOf i).toNat)
    case atStart => exact ⟨0, Nat.zero_le _, rfl, Below.refl _ _⟩
    case round =>
    clear e47 hb1
    obtain ⟨k, hk, rfl, hBr⟩ := hrel
    have hk9 : k ≤ 9 := by have := HL8.out; omega
    have HBr := Lib.hid (HB.out.trans (hBr.mono HB.out.size))
    by_cases hlt : k ≤ L.length
    · have d1 : decide ((k : Int) ≤ (L.length : Int)) = true := decide_eq_true (by omega)
      have q4 : (k : Int) ≤ (cl : Int) := by omega
      have q5 : k ≤ cl := by omega
      have HSk := Lib.hid (strs_take (HST.out.below hBr (Nat.le_refl _)) hlt)
      have hkb : ((k : Int) == (L.length : Int)) = (k == L.length) := by
        rw [Bool.eq_iff_iff, beq_iff_eq, beq_iff_eq]
        omega
      have V3k := V3.out k hlt
      obtain ⟨qb, hqb⟩ : ∃ qb, (k == L.length) = qb := ⟨_, rfl⟩
      rw [hqb] at V3k hkb
      have V3k := Lib.hid V3k
      have MKk := Lib.hid (MK.out k hlt)
      have V1k := Lib.hid (V1.out k hlt)
      have V2k := Lib.hid (V2.out k hlt)
      obtain ⟨T, hT⟩ : ∃ T, putL (L.take k) false = T := ⟨_, rfl⟩
      rw [hT] at MKk V1k V2k V3k
      clear hqb hT
      go_wp2_with fail
      refine (MKk.out _ _ HSk.out).mono ?_
      rintro e wa ⟨rfl, hb⟩
      have hBa := HBr.out.trans (hb.mono HBr.out.size)
      have hBb := hBr.trans (hb.mono hBr.size)
      clear hb
      go_wp2_with fail
      refine (V1k.out _ (HM.out.below hBa)).mono ?_
      rintro e wb ⟨rfl, hb⟩
      have hBa := hBa.trans (hb.mono hBa.size)
      have hBb := hBb.trans (hb.mono hBb.size)
      clear hb
      go_wp2_with fail
      refine (V2k.out _ (HM.out.below hBa)).mono ?_
      rintro e wc ⟨rfl, hb⟩
      have hBa := hBa.trans (hb.mono hBa.size)
      have hBb := hBb.trans (hb.mono hBb.size)
      clear hb
      go_wp2_with fail
      refine (V3k.out _ (HM.out.below hBa)).mono ?_
      rintro e wd ⟨rfl, hb⟩
      have hBb := hBb.trans (hb.mono hBb.size)
      clear hb hBa
      go_wp2_with fail
      go_roundw
      case rel => exact ⟨k + 1, by omega, by go_num, hBb⟩
      case measure => simp [intOf]; omega
    · have d1 : decide ((k : Int) ≤ (L.length : Int)) = false := decide_eq_false (by omega)
      go_wp2_with fail
      refine (awake_any _ (HM.out.below HBr.out)).mono ?_
      rintro e we ⟨rfl, hb⟩
      have hBa := HBr.out.trans (hb.mono HBr.out.size)
      clear hb
      go_wp2_with fail
      go_ret
      exact ⟨rfl, hBa⟩
end
end Go.Proofs.YtkchhgpebleioaaDoor
