/-
  The law PatternKids returns true for every text.
-/
import Derived.Test.YtdnbnigebejgjaaDoorHL2
import Derived.Test.YtdnbnigebejgjaaDoorHJA2
import Derived.Deep.OwnRows
namespace Go.Proofs.YtdnbnigebejgjaaDoor
open Go.RowKit Go.Shelf
/-- Block S holds the n numbers f. -/
def SeenAt (w : World) (S n : Nat) (f : Nat → Nat) : Prop := S < w.heap.size ∧ ∀ x, x < n → w.cell? ⟨S, x, none⟩ = some (.int .i64 (f x : Int)) ∧ w.frozen? ⟨S, x, none⟩ = false
theorem SeenAt.made (w : World) (n : Nat) : SeenAt (w.alloc (.cells (madeCells #[.int .i64 0] n) 3)) w.heap.size n (fun _ => 0) := by
  have hr := World.rowIs_made w (.int .i64 0) n 3
  have hn := heap_alloc_new w (.cells (madeCells #[Value.int .i64 0] n) 3)
  refine ⟨by rw [World.size_alloc]; omega, fun j hj => ⟨hr.cell hj, ?_⟩⟩
  unfold World.frozen?
  dsimp only
  rw [hn]
  simp
theorem SeenAt.made1 (w : World) (n : Nat) : SeenAt (w.alloc (.cells ((madeCells #[.int .i64 0] n).setIfInBounds 0 (.int .i64 1)) 3)) w.heap.size n (fun x => if x = 0 then 1 else 0) := by
  have hn := heap_alloc_new w (.cells ((madeCells #[Value.int .i64 0] n).setIfInBounds 0 (.int .i64 1)) 3)
  refine ⟨by rw [World.size_alloc]; omega, fun j hj => ⟨?_, ?_⟩⟩
  · unfold World.cell?
    dsimp only
    rw [hn]
    have hm : (madeCells #[Value.int .i64 0] n)[j]? = some (.int .i64 0) := by simp [madeCells, hj, Nat.mod_one]
    have hz : (madeCells #[Value.int .i64 0] n).size = n := size_madeCells _ _
    show ((madeCells #[Value.int .i64 0] n).setIfInBounds 0 (.int .i64 1))[j]? = _
    rw [Array.getElem?_setIfInBounds]
    by_cases e : j = 0
    · subst e
      rw [if_pos rfl, if_pos (by omega), if_pos rfl]; rfl
    · rw [if_neg (fun h => e h.symm), hm, if_neg e]; rfl
  · unfold World.frozen?
    dsimp only
    rw [hn]
    simp
theorem SeenAt.congr {w : World} {S n : Nat} {f g : Nat → Nat} (h : SeenAt w S n f) (e : ∀ x, x < n → f x = g x) : SeenAt w S n g :=
  ⟨h.1, fun x hx => by rw [← e x hx]; exact h.2 x hx⟩
theorem asc_gt : ∀ (l : List Int) (a n : Int), ascK a l n → ∀ j, j < l.length → a < l.getD j 0
  | [], _, _, _, j, hj => by simp at hj
  | x :: r, a, n, h, 0, _ => h.1
  | x :: r, a, n, h, j + 1, hj => by
    have i := asc_gt r x n h.2.2 j (by simpa using hj)
    have := h.1
    show a < r.getD j 0
    omega
theorem SeenAt.below {k : Nat} {w w' : World} {S n : Nat} {f : Nat → Nat} (h : SeenAt w S n f) (hb : Below k w w') (hk : w.heap.size ≤ k) : SeenAt w' S n f := by
  refine ⟨Nat.lt_of_lt_of_le h.1 hb.size, fun x hx => ?_⟩
  have e := hb.block S (Nat.lt_of_lt_of_le h.1 hk)
  refine ⟨(hb.cell (p := ⟨S, x, none⟩) (Nat.lt_of_lt_of_le h.1 hk)).trans (h.2 x hx).1, ?_⟩
  have := (h.2 x hx).2
  unfold World.frozen? at this ⊢
  rw [e]
  exact this
theorem SeenAt.set {w : World} {S n : Nat} {f : Nat → Nat} (h : SeenAt w S n f) {x v : Nat} (hx : x < n) : SeenAt (w.setCell ⟨S, x, none⟩ (.int .i64 (v : Int))) S n (fun y => if y = x then v else f y) := by
  obtain ⟨h1, h2⟩ := h
  refine ⟨by rw [World.size_setCell]; exact h1, fun j hj => ?_⟩
  rw [World.frozen?_setCell]
  refine ⟨?_, (h2 j hj).2⟩
  by_cases e : j = x
  · subst e
    rw [World.cell?_setCell_same _ _ _ (h2 j hj).1]
    dsimp only
    rw [if_pos rfl]
  · rw [World.cell?_setCell_other _ _ _ _ (fun h => e (by injection h with _ h; exact h.symm)), (h2 j hj).1]
    dsimp only
    rw [if_neg e]
set_option maxHeartbeats 8000000 in
set_option maxRecDepth 100000 in
theorem kids_law (s : List UInt8) (W : World) (hTS : TS W) :
    Calls Tryd.prog 5 #[.string ⟨s.toArray⟩] W fun e w' => e = .returned (.bool true) ∧ Below W.heap.size W w' := by
  have HAW := Lib.hid fun w h => awake_any w h
  by_cases hl : 64 < s.length
  · have a1 : decide ((64 : Int) < (s.length : Int)) = true := decide_eq_true (by omega)
    have a2 : decide (64 < s.length) = true := decide_eq_true hl
    clear hl
    go_enter Tryd.func5, Tryd.ntmps5
    go_wp2_with fail
    refine (HAW.out _ hTS).mono ?_
    rintro x w1 ⟨rfl, hb1⟩
    go_wp2_with fail
    go_ret
    exact ⟨rfl, hb1⟩
  have a1 : decide ((64 : Int) < (s.length : Int)) = false := decide_eq_false (by omega)
  have a2 : decide (64 < s.length) = false := decide_eq_false hl
  clear hl
  have HP := Lib.hid fun w h => parse19_any s w h
  by_cases he : (parP s).2.1 = 0
  case neg =>
    have h1 : (parP s).1 = .none := par_f he
    obtain ⟨⟨er, at_⟩, hE⟩ : ∃ x, (parP s).2 = x := ⟨_, rfl⟩
    rw [hE] at he
    rw [h1, hE] at HP
    unfold treeV at HP
    dsimp only [TR.none] at HP he
    have b1 : ((er : Int) != 0) = true := by simp; omega
    have b2 : ((er : Int) == 0) = false := by simp; omega
    have b3 : (er != 0) = true := by simpa using he
    have b4 : (er == 0) = false := by simpa using he
    clear h1 hE he
    go_enter Tryd.func5, Tryd.ntmps5
    go_wp2_with fail
    refine (HP.out _ hTS.2.1).mono ?_
    rintro q w2 ⟨u, rfl, ⟨r, cr, rfl, hcr, hu⟩, hb2⟩
    clear hu
    go_wp2_with fail
    have hB3 : Below W.heap.size W ((w2.alloc (.cells #[.slice r 0 cr, .bool false, .bool false, .int .i64 0] 24)).alloc (.cells #[.int .i64 (er : Int), .int .i64 (at_ : Int)] 38)) := (hb2.alloc hb2.size _).alloc (by have := hb2.size; simp; omega) _
    refine (HAW.out _ (hTS.below hB3)).mono ?_
    rintro x w4 ⟨rfl, hb4⟩
    go_wp2_with fail
    go_ret
    exact ⟨rfl, hB3.trans (hb4.mono hB3.size)⟩
  have hck := par_chk he
  have hE : (parP s).2 = (0, 0) := by
    obtain ⟨_, _, _, _, _, _, _, _, e⟩ := par_s he
    rw [e]
  obtain ⟨⟨L, b, e, g⟩, hT⟩ : ∃ T, (parP s).1 = T := ⟨_, rfl⟩
  rw [hT] at hck
  rw [hT, hE] at HP
  unfold treeV at HP
  dsimp only at HP hck
  clear hT hE he
  have hL1 := (chk_zero hck).1
  have hL0 := (treeB_facts (chk_zero hck).2.1).1
  have HCK := Lib.hid hck
  clear hck
  have hmk : ∀ W : World, (Instr.makeSlice 44 (.int .i64 (L.length : Int)) (.int .i64 (L.length : Int))).run Tryd.prog W = .ok (.slice (some ⟨W.heap.size, 0, none⟩) L.length L.length) (W.alloc (.cells (madeCells #[.int .i64 0] L.length) 3)) := fun W =>
    run_make_row' (P := Tryd.prog) 44 3 (.int .i64 0) 8 Tryd.underlying44 infoI rfl .i64 .i64 L.length (by omega) (by omega) W
  have HKI := Lib.hid fun v k w h => kids_any L (by omega) v b e g k w h
  go_enter Tryd.func5, Tryd.ntmps5
  go_wp2_with fail
  refine (HP.out _ hTS.2.1).mono ?_
  rintro q w2 ⟨u, rfl, hu, hb2⟩
  obtain ⟨p, cp, rfl, hcp, hu⟩ := hu
  have HU := Lib.hid hu
  have d1 : ((L.length : Int) == 0) = false := beq_eq_false_iff_ne.2 (by omega)
  have d2 : (L.length == 0) = false := beq_eq_false_iff_ne.2 (by omega)
  have d3 : (0 : Int) < (L.length : Int) := by omega
  have hz : ((w2.alloc (.cells #[.slice p L.length cp, .bool b, .bool e, .int .i64 g] 24)).alloc (.cells #[.int .i64 0, .int .i64 0] 38)).heap.size = w2.heap.size + 1 + 1 := by simp
  have hm := SeenAt.made ((w2.alloc (.cells #[.slice p L.length cp, .bool b, .bool e, .int .i64 g] 24)).alloc (.cells #[.int .i64 0, .int .i64 0] 38)) L.length
  rw [hz] at hm
  have c9 := (hm.2 0 (by omega)).1
  have f9 := (hm.2 0 (by omega)).2
  clear hu hz
  go_wp2_with fail
  obtain ⟨S, hS⟩ : ∃ S, w2.heap.size + 1 + 1 = S := ⟨_, rfl⟩
  have hB0 : Below W.heap.size W ((w2.alloc (.cells #[.slice p L.length cp, .bool b, .bool e, .int .i64 g] 24)).alloc (.cells #[.int .i64 0, .int .i64 0] 38)) := (hb2.alloc hb2.size _).alloc (by have := hb2.size; simp; omega) _
  have t0 := (CBlk.new 24 w2 [.slice p L.length cp, .bool b, .bool e, .int .i64 g]).alloc (.cells #[.int .i64 0, .int .i64 0] 38)
  have hU0 := HU.out.below (((Below.refl w2.heap.size w2).alloc (Nat.le_refl _) (.cells #[.slice p L.length cp, .bool b, .bool e, .int .i64 g] 24)).alloc (by simp) (.cells #[.int .i64 0, .int .i64 0] 38)) (Nat.le_refl _)
  have hz : ((w2.alloc (.cells #[.slice p L.length cp, .bool b, .bool e, .int .i64 g] 24)).alloc (.cells #[.int .i64 0, .int .i64 0] 38)).heap.size = S := by rw [← hS]; simp
  generalize hX0 : (w2.alloc (.cells #[.slice p L.length cp, .bool b, .bool e, .int .i64 g] 24)).alloc (.cells #[.int .i64 0, .int .i64 0] 38) = X0 at hB0 t0 hU0 hz hm c9 f9 ⊢
  rw [hS] at hm ⊢
  have hTlt : w2.heap.size < S := by omega
  have hWS : W.heap.size ≤ S := by have := hb2.size; omega
  obtain ⟨T, hT⟩ : ∃ T, w2.heap.size = T := ⟨_, rfl⟩
  rw [hT] at t0 hTlt
  rw [hT]
  have HT0 := Lib.hid t0
  have HU0 := Lib.hid hU0
  have HB0 := Lib.hid hB0
  have HZ := Lib.hid hz
  have hm1 := SeenAt.made1 X0 L.length
  rw [hz] at hm1
  have hs0 := Lib.hid hm1
  have hbS := Lib.hid ((Below.refl S X0).alloc (by rw [hz]; exact Nat.le_refl _) (.cells ((madeCells #[.int .i64 0] L.length).setIfInBounds 0 (.int .i64 1)) 3))
  clear hX0 hS hT c9 f9 hm hm1 hB0 t0 hU0 hz hb2 HU hmk
  go_loopw [6] (fun i wr => ∃ k : Nat, k ≤ L.length ∧ i = .int .i64 k ∧ Hid (SeenAt wr S L.length (fun x => (if x = 0 then 1 else 0) + sumK L (x : Int) 0 k)) ∧ Hid (Below S X0 wr)) (fun i _ => L.length - (intOf i).toNat)
  case atStart => exact ⟨0, Nat.zero_le _, rfl, Lib.hid (hs0.out.congr fun x _ => rfl), hbS⟩
  case round =>
    clear hs0 hbS
    obtain ⟨k, hk, rfl, hs, hb⟩ := hrel
    have t1 := HT0.out.below hb.out hTlt
    have hSlt := hs.out.1
    have c0 := t1.cell 0 (by simp)
    have c1 := t1.cell 1 (by simp)
    have c2 := t1.cell 2 (by simp)
    have c3 := t1.cell 3 (by simp)
    clear t1
    by_cases hlt : k < L.length
    · have a5 : decide ((k : Int) < (L.length : Int)) = true := decide_eq_true (by omega)
      have a6 : decide (k < L.length) = true := decide_eq_true hlt
      have hkr : kidR L g (k : Int) = (kidL L k, 0) := by
        unfold kidR
        rw [if_pos HCK.out, if_pos ⟨by omega, by omega⟩, Int.toNat_natCast]
      have HK := Lib.hid fun w h => HKI.out (.slice p L.length cp) (k : Int) w h
      rw [hkr] at HK
      have hasc := Lib.hid (tree_asc HCK.out k hlt)
      have hKl : (kidL L k).length ≤ 202 := Nat.le_trans (chn_len L _ _) (by omega)
      obtain ⟨K, hK⟩ : ∃ K, kidL L k = K := ⟨_, rfl⟩
      rw [hK] at HK hasc hKl
      have hKm := Lib.hid hK
      clear hkr hK
      dsimp only at HK
      go_wp2_with fail
      refine (HK.out _ ⟨p, cp, rfl, hcp, HU0.out.below hb.out (by rw [HZ.out]; exact Nat.le_refl _)⟩).mono ?_
      rintro q w5 ⟨uk, rfl, ho, hb5⟩
      obtain ⟨pk, ck, rfl, hcel⟩ := cells_of_own ho (by rw [List.length_map, Nat.mul_one])
      have hrow : ∀ j, j < K.length → ∃ gk, pk = some ⟨gk, 0, none⟩ ∧ S < gk ∧ gk < w5.heap.size ∧ w5.cell? ⟨gk, j, none⟩ = some (.int .i64 (K.getD j 0)) := by
        intro j hj
        obtain ⟨gk, cap, he1, hg1, hg2⟩ := ho.form (by omega)
        injection he1 with he1 _ _
        subst he1
        refine ⟨gk, rfl, by omega, hg2, ?_⟩
        rw [ho.cellAt j (by omega), List.getElem?_map, List.getD_eq_getElem?_getD, List.getElem?_eq_getElem hj]
        rfl
      have hs5 := Lib.hid (hs.out.below hb5 (Nat.le_refl _))
      have hb6 := Lib.hid (hb.out.trans (hb5.mono (Nat.le_of_lt hSlt)))
      have HR := Lib.hid hrow
      clear ho hcel hrow hb5 hs hb c0 c1 c2 c3 hSlt
      go_wp2_with fail
      go_loopw [9, 10] (fun las i wx => ∃ j : Nat, j ≤ K.length ∧ i = .int .i64 j ∧ (∃ la : Int, las = .int .i64 la ∧ Hid (la = if j = 0 then (k : Int) else K.getD (j - 1) 0)) ∧
        Hid (SeenAt wx S L.length (fun x => (if x = 0 then 1 else 0) + sumK L (x : Int) 0 k + (K.take j).count (x : Int))) ∧ Hid (Below S X0 wx) ∧
        Hid (∀ j, j < K.length → ∃ gk, pk = some ⟨gk, 0, none⟩ ∧ S < gk ∧ gk < wx.heap.size ∧ wx.cell? ⟨gk, j, none⟩ = some (.int .i64 (K.getD j 0)))) (fun _ i _ => K.length - (intOf i).toNat)
      case atStart =>
        exact ⟨0, Nat.zero_le _, rfl, ⟨_, rfl, Lib.hid rfl⟩, Lib.hid (hs5.out.congr fun x _ => by simp), hb6, HR⟩
      case round =>
        clear hs5 hb6 HR
        obtain ⟨j, hj, rfl, ⟨la, rfl, hla⟩, hs, hb, hr⟩ := hrel
        by_cases hjl : j < K.length
        · obtain ⟨gk, rfl, hg1, hg2, hg3⟩ := hr.out j hjl
          have hat := ascK_at K _ _ hasc.out j hjl
          rw [← hla.out] at hat
          have hgt := asc_gt K _ _ hasc.out j hjl
          obtain ⟨z, hz⟩ : ∃ z, K.getD j 0 = z := ⟨_, rfl⟩
          rw [hz] at hat hgt hg3
          obtain ⟨y, rfl⟩ := Int.eq_ofNat_of_zero_le (show 0 ≤ z by omega)
          have hyl : y < L.length := by omega
          obtain ⟨cs, cf⟩ := hs.out.2 y hyl
          have hle := sumK_le HCK.out y hyl k (by omega)
          have hct : (K.take j).count (y : Int) ≤ 202 := Nat.le_trans List.count_le_length (by rw [List.length_take]; omega)
          obtain ⟨cy, hcy⟩ : ∃ cy, (if y = 0 then 1 else 0) + sumK L (y : Int) 0 k + (K.take j).count (y : Int) = cy := ⟨_, rfl⟩
          have hcb : cy < 1000 := by omega
          have cs' : wr.cell? ⟨S, y, none⟩ = some (.int .i64 (cy : Int)) := by rw [← hcy]; exact cs
          have b1 : (j : Int) < (K.length : Int) := by omega
          have b2 : decide ((j : Int) < (K.length : Int)) = true := decide_eq_true b1
          have b3 : decide ((y : Int) ≤ la) = false := decide_eq_false (by omega)
          have b4 : decide ((L.length : Int) ≤ (y : Int)) = false := decide_eq_false (by omega)
          have b5 : (y : Int) < (L.length : Int) := by omega
          have b6 : decide (L.length ≤ y) = false := decide_eq_false (by omega)
          have b7 : decide (j < K.length) = true := decide_eq_true hjl
          have ww : IntKind.i64.wrap ((cy : Int) + 1) = (cy : Int) + 1 := jwrap (by omega) (by omega)
          have wj : IntKind.i64.wrap ((j : Int) + 1) = (j : Int) + 1 := jwrap (by omega) (by omega)
          have hSl := hs.out.1
          have HZ2 := Lib.hid hz
          have HCY := Lib.hid hcy
          clear hat hgt hle hct hcy cs hz hla
          go_wp2_with fail
          have hs2 : SeenAt (wr.setCell ⟨S, y, none⟩ (.int .i64 ((cy : Int) + 1))) S L.length (fun x => (if x = 0 then 1 else 0) + sumK L (x : Int) 0 k + (K.take (j + 1)).count (x : Int)) := by
            have h1 := hs.out.set (x := y) (v := cy + 1) hyl
            have e1 : (((cy + 1 : Nat)) : Int) = (cy : Int) + 1 := by omega
            rw [e1] at h1
            refine h1.congr fun x hx => ?_
            have htk : K.take (j + 1) = K.take j ++ [(y : Int)] := by
              rw [List.take_add_one, List.getElem?_eq_getElem hjl, ← HZ2.out, List.getD_eq_getElem?_getD, List.getElem?_eq_getElem hjl]
              rfl
            rw [htk, List.count_append, ← HCY.out]
            by_cases e : x = y
            · subst e
              rw [if_pos rfl, List.count_singleton_self]
              omega
            · rw [if_neg e, List.count_cons_of_ne (by omega), List.count_nil]
              omega
          have hb2 : Below S X0 (wr.setCell ⟨S, y, none⟩ (.int .i64 ((cy : Int) + 1))) := hb.out.setCell (p := ⟨S, y, none⟩) (Nat.le_refl _) _
          have hr2 : ∀ j, j < K.length → ∃ gk', some (⟨gk, 0, none⟩ : Addr) = some ⟨gk', 0, none⟩ ∧ S < gk' ∧ gk' < (wr.setCell ⟨S, y, none⟩ (.int .i64 ((cy : Int) + 1))).heap.size ∧ (wr.setCell ⟨S, y, none⟩ (.int .i64 ((cy : Int) + 1))).cell? ⟨gk', j, none⟩ = some (.int .i64 (K.getD j 0)) := by
            intro i hi
            obtain ⟨gk', h1, h2, h3, h4⟩ := hr.out i hi
            refine ⟨gk', h1, h2, by rw [World.size_setCell]; exact h3, ?_⟩
            rw [World.cell?_setCell_other _ _ _ _ (fun h => by injection h with h _; omega), h4]
          go_roundw
          case rel =>
            refine ⟨j + 1, by omega, by go_num, ⟨_, rfl, Lib.hid ?_⟩, Lib.hid hs2, Lib.hid hb2, Lib.hid hr2⟩
            rw [if_neg (by omega), Nat.add_sub_cancel]
            exact HZ2.out.symm
          case measure => simp [intOf]; omega
        · obtain rfl : j = K.length := by omega
          have b2 : decide ((K.length : Int) < (K.length : Int)) = false := decide_eq_false (by omega)
          have wk : IntKind.i64.wrap ((k : Int) + 1) = (k : Int) + 1 := jwrap (by omega) (by omega)
          have hs2 := Lib.hid (hs.out.congr (g := fun x => (if x = 0 then 1 else 0) + sumK L (x : Int) 0 (k + 1)) fun x hx => by
            rw [List.take_length, ← hKm.out]
            show _ = _ + (sumK L (x : Int) 0 k + (kidL L (0 + k)).count (x : Int))
            rw [Nat.zero_add]
            omega)
          clear hs hr hla
          go_wp2_with fail
          go_roundw
          case rel => exact ⟨k + 1, by omega, by go_num, hs2, hb⟩
          case measure => simp [intOf]; omega
    · obtain rfl : k = L.length := by omega
      have a5 : decide ((L.length : Int) < (L.length : Int)) = false := decide_eq_false (by omega)
      have hs2 := hs.out.congr (g := fun _ => 1) fun x hx => tree_count HCK.out x hx
      have HS2 := Lib.hid hs2
      clear hs hs2
      go_wp2_with fail
      go_loopw [11] (fun i wx => ∃ j : Nat, j ≤ L.length ∧ i = .int .i64 j ∧ wx = wr) (fun i _ => L.length - (intOf i).toNat)
      case atStart => exact ⟨0, Nat.zero_le _, rfl, rfl⟩
      case round =>
        obtain ⟨j, hj, rfl, rfl⟩ := hrel
        by_cases hjl : j < L.length
        · have b1 : (j : Int) < (L.length : Int) := by omega
          have b2 : decide ((j : Int) < (L.length : Int)) = true := decide_eq_true b1
          have b7 : decide (j < L.length) = true := decide_eq_true hjl
          have cj := (HS2.out.2 j hjl).1
          have wj : IntKind.i64.wrap ((j : Int) + 1) = (j : Int) + 1 := jwrap (by omega) (by omega)
          go_wp2_with fail
          go_roundw
          case rel => exact ⟨j + 1, by omega, by go_num, trivial⟩
          case measure => simp [intOf]; omega
        · obtain rfl : j = L.length := by omega
          have hBW := HB0.out.trans (hb.out.mono hWS)
          go_wp2_with fail
          refine (HAW.out _ (hTS.below hBW)).mono ?_
          rintro x w9 ⟨rfl, hb9⟩
          go_wp2_with fail
          go_ret
          exact ⟨rfl, hBW.trans (hb9.mono hBW.size)⟩
end Go.Proofs.YtdnbnigebejgjaaDoor
