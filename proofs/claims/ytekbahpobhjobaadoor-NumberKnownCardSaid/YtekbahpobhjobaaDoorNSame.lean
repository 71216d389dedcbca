/-
  The reference's Same for every text and limits.
-/
import Derived.Test.YtekbahpobhjobaaDoorNSameF
import Derived.Maps.AppendAt
import Derived.Deep.AppendLies
import Derived.Deep.RegionLaw
import Derived.Laws.OwnMore
import Derived.Laws.DeepStrings4
import Derived.Deep.RegionHeld3
import Derived.Deep.QuietTactic
import Derived.BigQuiet
namespace Go.Proofs.YtekbahpobhjobaaDoor
open Go.RowKit
attribute [local go_sem] ba_get
theorem infoS : (Tryd.prog.info? 9).map (fun i => (i.zero, i.size, i.bytes)) = some (some (.string ⟨#[]⟩), 1, 16) := by kernel_rfl
def strV (l : List UInt8) : Value := .string ⟨l.toArray⟩
theorem belowGrown {W W' : World} (h : Below W.heap.size W W') : W.grownBy W' none := ⟨h.os, h.tape, h.output, h.size, fun k hk _ => h.block k hk⟩
theorem own_below {W W' : World} {base : Nat} {e : TypeId} {size n : Nat} {v : Value} {xs : List Value} (h : W.ownsRow base e size v n xs) (hb : Below W.heap.size W W') : W'.ownsRow base e size v n xs := h.kept (belowGrown hb) (Decidable.em _)
theorem own_ge {W : World} {base : Nat} {e : TypeId} {size n : Nat} {v : Value} {xs : List Value} (h : W.ownsRow base e size v n xs) (m : Nat) (hm : m ≤ base) : ∀ r, v.ownBlock = some r → m ≤ r := fun r hr => Nat.le_trans hm (h.lt r hr).1
theorem below_grown {n : Nat} {w W W' : World} {row : Option Nat} (hB : Below n w W) (hn : n ≤ W.heap.size) (hg : W.grownBy W' row) (hr : ∀ r, row = some r → n ≤ r) : Below n w W' :=
  hB.trans ⟨hg.os, hg.tape, hg.output, hg.size, fun k hk => hg.block k (Nat.lt_of_lt_of_le hk hn) (fun e => by have := hr k e.symm; omega)⟩
theorem below_transN {N : Nat} {W wx w' : World} (hN : W.heap.size = N) (h : Below N W wx) (hb : Below wx.heap.size wx w') : Below N W w' := h.trans (hb.mono (hN ▸ h.size))
theorem below_eqN {N : Nat} {W wx : World} (hN : W.heap.size = N) (h : Below N W wx) : Below W.heap.size W wx := hN ▸ h
theorem keepS {N : Nat} {W wx : World} {g k : Nat} {v : Value} (hN : W.heap.size = N) (hc : W.cell? ⟨g, k, none⟩ = some v) (hg : g < W.heap.size) (hb : Below N W wx) : Below N W wx ∧ wx.cell? ⟨g, k, none⟩ = some v :=
  ⟨hb, (hb.cell (p := ⟨g, k, none⟩) (hN ▸ hg)).trans hc⟩
/-- The list when k of its elements are written anew. -/
def strD (l : List UInt8) : Value := .string ⟨(digL 10 (numL false l)).toArray⟩
def rowAt (P : List (List UInt8)) (k : Nat) : List Value := (P.take k).map strD ++ (P.drop k).map strV
theorem rowAt_zero (P : List (List UInt8)) : rowAt P 0 = P.map strV := by simp [rowAt]
theorem rowAt_all (P : List (List UInt8)) : rowAt P P.length = P.map strD := by simp [rowAt]
theorem rowAt_at {P : List (List UInt8)} {k : Nat} (h : k < P.length) : (rowAt P k)[k]? = some (strV P[k]) := by
  unfold rowAt
  rw [List.getElem?_append_right (by simp; omega)]
  simp [List.length_take, Nat.min_eq_left (Nat.le_of_lt h), List.getElem?_drop, List.getElem?_eq_getElem h]
theorem rowAt_set {P : List (List UInt8)} {k : Nat} (h : k < P.length) : (rowAt P k).set k (strD P[k]) = rowAt P (k + 1) := by
  unfold rowAt
  rw [List.set_append_right _ _ (by simp; omega), List.drop_eq_getElem_cons h, List.map_cons, show k - (List.map strD (P.take k)).length = 0 by simp; omega, List.set_cons_zero, List.take_succ_eq_append_getElem h, List.map_append, List.append_assoc]
  rfl
def errE (digits : Int) (most : Nat) (e : List UInt8) : Bool := (readR false e digits most).2 != 0
theorem errE_no {digits : Int} {most : Nat} {e : List UInt8} (h : errE digits most e = false) : readR false e digits most = (numL false e, 0) ∧ numL false e < U64 := by
  unfold errE at h
  unfold readR at h ⊢
  split
  · rename_i h1; rw [if_pos h1] at h; cases h
  · rename_i h1
    rw [if_neg h1] at h
    split
    · rename_i h2; rw [if_pos h2] at h; cases h
    · rename_i h2
      rw [if_neg h2] at h
      split
      · rename_i h3; rw [if_pos h3] at h; cases h
      · rename_i h3
        exact ⟨rfl, by omega⟩
theorem sub_ok (l : List UInt8) (j k : Nat) : (ByteArray.mk l.toArray).extract j k = ⟨(subL l j k).toArray⟩ := ba_sub l j k
attribute [local go_sem] sub_ok
set_option maxRecDepth 100000 in
set_option maxHeartbeats 8000000 in
theorem refSame_any (l : List UInt8) (hl : l.length < 100000) (digits : Int) (most : Nat) (w : World) :
    Calls Tryd.prog 19 #[.string ⟨l.toArray⟩, .int .i64 digits, .int .u64 (most : Int)] w fun e w' => e = .returned (sameV l digits most) ∧ Below w.heap.size w w' := by
  obtain ⟨i0, hi, hz0, hz1, hz2⟩ := info_parts infoS
  obtain ⟨E, hE⟩ : ∃ E, elemsL l = E := ⟨_, rfl⟩
  have hel := elems_all l
  rw [hE] at hel
  obtain ⟨hel1, hel2, hel3⟩ := hel
  have HM := Lib.hid hel3
  have HE := Lib.hid hE
  clear hel3 hE
  go_enter Tryd.func19, Tryd.ntmps19
  go_wp2_with fail
  go_loopw [8, 9, 10] (fun v j i wr => ∃ (a k : Nat) (P : List (List UInt8)), a ≤ k ∧ k ≤ l.length + 1 ∧ j = .int .i64 a ∧ i = .int .i64 k ∧ P.length ≤ k ∧ wr.ownsRow w.heap.size 9 1 v P.length (P.map strV) ∧
      Hid ((k ≤ l.length ∧ P ++ (piecesF (l.drop k) (subL l a k)).map trimL = E) ∨ (k = l.length + 1 ∧ P = E)) ∧ Below w.heap.size w wr)
    (fun _ _ i _ => l.length + 1 - (intOf i).toNat)
  case atStart =>
    exact ⟨0, 0, [], Nat.le_refl _, Nat.zero_le _, rfl, rfl, Nat.le_refl _, World.ownsRow_nil _ _ _ _, Lib.hid (Or.inl ⟨Nat.zero_le _, by rw [List.drop_zero, subL_none, List.nil_append]; exact HE.out⟩), Below.refl _ _⟩
  case round =>
  obtain ⟨a, k, P, hak, hk, rfl, rfl, hP, hrow, hst, hB⟩ := hrel
  by_cases hlt : k ≤ l.length
  · have d1 : decide ((k : Int) ≤ (l.length : Int)) = true := decide_eq_true (by omega)
    have hst1 : P ++ (piecesF (l.drop k) (subL l a k)).map trimL = E := by
      rcases hst.out with ⟨_, h⟩ | ⟨h, _⟩
      · exact h
      · omega
    have hql : (subL l a k).length < 1000000 := by have := subL_length l a k; omega
    have hak2 : (a : Int) ≤ (k : Int) := by omega
    have hkl : (k : Int) ≤ (l.length : Int) := by omega
    by_cases hend : k = l.length
    · have hnext : Hid (P ++ [trimL (subL l a k)] = E) := Lib.hid (by rw [← hst1, hend, List.drop_length]; rfl)
      subst hend
      obtain ⟨Q, hQ⟩ : ∃ Q, trimL (subL l a l.length) = Q := ⟨_, rfl⟩
      rw [hQ] at hnext
      have HQ := Lib.hid hQ
      clear hst1 hQ hst
      go_wp2_with fail
      refine (refTrim_any (subL l a l.length) hql _).mono ?_
      rintro e w' ⟨rfl, rfl⟩
      rw [HQ.out]
      go_wp2_with (at_builtin; refine wpList_append_own _ rfl _ _ 40 rfl w.heap.size 9 i0 (.string ⟨#[]⟩) 1 16 Tryd.underlying40 hi hz0 hz1 hz2 rfl (by decide) _ _ _ rfl (hrow.alloc _) ⟨wr.heap.size, 0, none⟩ 1 1 [strV Q] rfl rfl (cell_one_new _ _ _) (by simp [Value.oneCell', strV]) (by unfold maxLen; omega) (by omega) (by have := hB.size; simp; omega) ?_; intro v' w1 hown' hgrow _)
      go_roundw
      case rel =>
        refine ⟨l.length + 1, l.length + 1, P ++ [Q], Nat.le_refl _, Nat.le_refl _, by go_num, by go_num, by rw [List.length_append]; exact Nat.add_le_add hP (Nat.le_refl 1), ?_, Lib.hid (Or.inr ⟨rfl, hnext.out⟩), below_grown (hB.alloc hB.size _) (by have := hB.size; simp; omega) hgrow (own_ge hrow _ (Nat.le_refl _))⟩
        rw [List.map_append, List.length_append]
        exact hown'
      case measure => simp [intOf]
    · have hkl2 : (k : Int) < (l.length : Int) := by omega
      have hklt : k < l.length := by omega
      have d2 : ((k : Int) == (l.length : Int)) = false := by rw [beq_eq_false_iff_ne]; omega
      have d3 : (k == l.length) = false := by rw [beq_eq_false_iff_ne]; omega
      obtain ⟨z, hz⟩ : ∃ z, l[k] = z := ⟨_, rfl⟩
      obtain ⟨y, hy⟩ : ∃ y, z.toNat = y := ⟨_, rfl⟩
      by_cases h44 : y = 44
      · have hz44 : l[k] = 44 := by rw [hz]; exact UInt8.toNat_inj.1 (by rw [hy, h44]; rfl)
        have hnext : Hid (P ++ [trimL (subL l a k)] ++ (piecesF (l.drop (k + 1)) (subL l (k + 1) (k + 1))).map trimL = E) := Lib.hid (by
          rw [← hst1, piecesF_comma hklt hz44, subL_none]; simp)
        obtain ⟨Q, hQ⟩ : ∃ Q, trimL (subL l a k) = Q := ⟨_, rfl⟩
        rw [hQ] at hnext
        have HQ := Lib.hid hQ
        subst h44
        clear hst1 hQ hst hz44
        go_wp2_with fail
        refine (refTrim_any (subL l a k) hql _).mono ?_
        rintro e w' ⟨rfl, rfl⟩
        rw [HQ.out]
        go_wp2_with (at_builtin; refine wpList_append_own _ rfl _ _ 40 rfl w.heap.size 9 i0 (.string ⟨#[]⟩) 1 16 Tryd.underlying40 hi hz0 hz1 hz2 rfl (by decide) _ _ _ rfl (hrow.alloc _) ⟨wr.heap.size, 0, none⟩ 1 1 [strV Q] rfl rfl (cell_one_new _ _ _) (by simp [Value.oneCell', strV]) (by unfold maxLen; omega) (by omega) (by have := hB.size; simp; omega) ?_; intro v' w1 hown' hgrow _)
        go_roundw
        case rel =>
          refine ⟨k + 1, k + 1, P ++ [Q], Nat.le_refl _, by omega, by go_num, by go_num, by rw [List.length_append]; exact Nat.add_le_add hP (Nat.le_refl 1), ?_, Lib.hid (Or.inl ⟨by omega, hnext.out⟩), below_grown (hB.alloc hB.size _) (by have := hB.size; simp; omega) hgrow (own_ge hrow _ (Nat.le_refl _))⟩
          rw [List.map_append, List.length_append]
          exact hown'
        case measure => simp [intOf]; omega
      · have hz44 : l[k] ≠ 44 := by rw [hz]; exact fun e => h44 (by rw [← hy, e]; rfl)
        have hnext : Hid (P ++ (piecesF (l.drop (k + 1)) (subL l a (k + 1))).map trimL = E) := Lib.hid (by
          rw [← hst1, piecesF_more hklt hz44, subL_more hak hklt])
        have e1 : ((y : Int) == 44) = false := by rw [beq_eq_false_iff_ne]; omega
        have e2 : (y == 44) = false := by rw [beq_eq_false_iff_ne]; omega
        clear hst1 hst hz44 h44
        go_wp2_with fail
        go_roundw
        case rel => exact ⟨a, k + 1, P, by omega, by omega, rfl, by go_num, by omega, hrow, Lib.hid (Or.inl ⟨by omega, hnext.out⟩), hB⟩
        case measure => simp [intOf]; omega
  · have d1 : decide ((k : Int) ≤ (l.length : Int)) = false := decide_eq_false (by omega)
    have hPE : P = E := by
      rcases hst.out with ⟨h, _⟩ | ⟨_, h⟩
      · omega
      · exact h
    subst hPE
    obtain ⟨g, cap, rfl, hg1, hg2⟩ := hrow.form hel2
    have hEl : P.length < 1000000 := by omega
    clear hst hP hak
    go_wp2_with fail
    go_loopw [11] (fun i wr => ∃ k : Nat, k ≤ P.length ∧ i = .int .i64 k ∧ Hid ((P.take k).any badE = false) ∧ wr.ownsRow w.heap.size 9 1 (.slice (some ⟨g, 0, none⟩) P.length cap) P.length (P.map strV) ∧ Below w.heap.size w wr)
      (fun i _ => P.length - (intOf i).toNat)
    case atStart => exact ⟨0, Nat.zero_le _, rfl, Lib.hid (by rw [List.take_zero]; rfl), hrow, hB⟩
    case round =>
    clear hrow hB
    obtain ⟨k, hk, rfl, hno, hrow, hB⟩ := hrel
    have hgl : g < wr.heap.size := (hrow.lt g rfl).2
    by_cases hlt : k < P.length
    · have d1 : decide ((k : Int) < (P.length : Int)) = true := decide_eq_true (by omega)
      have hb2 : (k : Int) < (P.length : Int) := by omega
      have hstep := any_take hlt badE
      obtain ⟨e, he⟩ : ∃ e, P[k] = e := ⟨_, rfl⟩
      have hcell : wr.cell? ⟨g, k, none⟩ = some (.string ⟨e.toArray⟩) := by
        rw [hrow.cellAt k (by omega), List.getElem?_map, List.getElem?_eq_getElem hlt, he]; rfl
      have hel : e.length < 1000000 := by
        have := HM.out e (by rw [← he]; exact List.getElem_mem hlt)
        omega
      rw [he, hno.out] at hstep
      obtain ⟨N, hN⟩ : ∃ N, Hid (wr.heap.size = N) := ⟨_, Lib.hid rfl⟩
      obtain ⟨q, hq⟩ : ∃ q, badE e = q := ⟨_, rfl⟩
      have hyes : Hid (q = true → sameR l digits most = (0, 3)) := Lib.hid (fun h => by
        unfold sameR
        rw [HE.out, if_pos (any_yes hlt (by rw [he, hq, h]))])
      rw [hq] at hstep
      have hnext : Hid ((P.take (k + 1)).any badE = (false || q)) := Lib.hid hstep
      clear hstep he
      go_upto_region 12 with fail
      go_cut [66] (fun p wx => p = .bool q ∧ Below wr.heap.size wr wx)
      case first =>
        by_cases h0 : e = []
        · have hq1 : Hid (q = true) := Lib.hid (by rw [← hq, h0]; rfl)
          subst h0
          have hcell : wr.cell? ⟨g, k, none⟩ = some (.string ⟨#[]⟩) := hcell
          clear hq hyes hnext
          refine wp_region_noPanic ?_
          refine wp_region_held_drew (S := fun wx => Below N wr wx ∧ wx.cell? ⟨g, k, none⟩ = some (.string ⟨#[]⟩)) (by kernel_rfl) ?_ (fun hHeld => ?_)
          focus ((try dsimp only); ((go_split_ands; refine keepS hN.out hcell hgl ?_; have hN := hN.out; repeat' (first | (with_reducible assumption) | (with_reducible exact Below.refl _ _) | (with_reducible refine Below.drew ?_) | (refine below_transN (wx := ?_) hN ?_ ?_; rotate_left 2; assumption)))))
          try simp only [Act.put, List.setIfInBounds_toArray, List.set_cons_zero, List.set_cons_succ]
          refine wpAnyH_take (i := 0) (oi := { dst := some 49, op := Go.Op.move (Go.Operand.tmp 8), type := 40, pos := "ref.go:107", after := #[], guard := none }) (v := ?_) rfl (by kernel_rfl) (by kernel_rfl) (by kernel_rfl) (fun _ _ _ h => h) (Or.inl ⟨by rfl, ?_⟩) (by assumption) ?_
          rotate_left
          focus ((intro w hSw; (try dsimp only at hSw); go_simp) <;> (with_reducible rfl))
          try simp only [Act.put, List.setIfInBounds_toArray, List.set_cons_zero, List.set_cons_succ]
          refine wpAnyH_take (i := 1) (oi := { dst := some 50, op := Go.Op.move (Go.Operand.tmp 11), type := 3, pos := "ref.go:107", after := #[], guard := none }) (v := ?_) rfl (by kernel_rfl) (by kernel_rfl) (by kernel_rfl) (fun _ _ _ h => h) (Or.inl ⟨by rfl, ?_⟩) (by assumption) ?_
          rotate_left
          focus ((intro w hSw; (try dsimp only at hSw); go_simp) <;> (with_reducible rfl))
          try simp only [Act.put, List.setIfInBounds_toArray, List.set_cons_zero, List.set_cons_succ]
          refine wpAnyH_take (i := 2) (oi := { dst := some 51, op := Go.Op.indexAddr 40 (Go.Operand.tmp 49) (Go.Operand.tmp 50), type := 0, pos := "ref.go:107", after := #[{ on := 0, ground := Go.Ground.data }, { on := 1, ground := Go.Ground.data }], guard := none }) (v := ?_) rfl (by kernel_rfl) (by kernel_rfl) (by kernel_rfl) (fun _ _ _ h => h) (Or.inl ⟨by rfl, ?_⟩) (by assumption) ?_
          rotate_left
          focus ((intro w hSw; (try dsimp only at hSw); go_simp) <;> (with_reducible rfl))
          try simp only [Act.put, List.setIfInBounds_toArray, List.set_cons_zero, List.set_cons_succ]
          refine wpAnyH_take (i := 3) (oi := { dst := some 52, op := Go.Op.load 9 (Go.Operand.tmp 51), type := 9, pos := "ref.go:107", after := #[{ on := 2, ground := Go.Ground.data }], guard := none }) (v := ?_) rfl (by kernel_rfl) (by kernel_rfl) (by kernel_rfl) (fun _ _ _ h => h) (Or.inl ⟨by rfl, ?_⟩) (by assumption) ?_
          rotate_left
          focus ((intro w hSw; (try dsimp only at hSw); go_simp) <;> (with_reducible rfl))
          try simp only [Act.put, List.setIfInBounds_toArray, List.set_cons_zero, List.set_cons_succ]
          refine wpAnyH_take (i := 4) (oi := { dst := some 53, op := Go.Op.binOp Go.BinOp.eql 9 (Go.Operand.tmp 52) (Go.Operand.const (Go.Value.string { data := #[] })) 9, type := 4, pos := "ref.go:107", after := #[{ on := 3, ground := Go.Ground.data }], guard := none }) (v := ?_) rfl (by kernel_rfl) (by kernel_rfl) (by kernel_rfl) (fun _ _ _ h => h) (Or.inl ⟨by rfl, ?_⟩) (by assumption) ?_
          rotate_left
          focus ((intro w hSw; (try dsimp only at hSw); go_simp) <;> (with_reducible rfl))
          try simp only [Act.put, List.setIfInBounds_toArray, List.set_cons_zero, List.set_cons_succ]
          refine wpAnyH_take (i := 5) (oi := { dst := some 54, op := Go.Op.move (Go.Operand.tmp 53), type := 4, pos := "ref.go:107", after := #[{ on := 4, ground := Go.Ground.data }], guard := none }) (v := ?_) rfl (by kernel_rfl) (by kernel_rfl) (by kernel_rfl) (fun _ _ _ h => h) (Or.inl ⟨by rfl, ?_⟩) (by assumption) ?_
          rotate_left
          focus ((intro w hSw; (try dsimp only at hSw); go_simp) <;> (with_reducible rfl))
          try simp only [Act.put, List.setIfInBounds_toArray, List.set_cons_zero, List.set_cons_succ]
          refine wpAnyH_take (i := 6) (oi := { dst := some 55, op := Go.Op.move (Go.Operand.tmp 8), type := 40, pos := "ref.go:107", after := #[{ on := 5, ground := Go.Ground.guard }], guard := some (5, false) }) (v := undef) rfl (by kernel_rfl) (by kernel_rfl) (by kernel_rfl) (fun _ _ _ h => h) (Or.inr ⟨by rfl, rfl⟩) (by assumption) ?_
          try simp only [Act.put, List.setIfInBounds_toArray, List.set_cons_zero, List.set_cons_succ]
          refine wpAnyH_take (i := 7) (oi := { dst := some 56, op := Go.Op.move (Go.Operand.tmp 11), type := 3, pos := "ref.go:107", after := #[{ on := 5, ground := Go.Ground.guard }], guard := some (5, false) }) (v := undef) rfl (by kernel_rfl) (by kernel_rfl) (by kernel_rfl) (fun _ _ _ h => h) (Or.inr ⟨by rfl, rfl⟩) (by assumption) ?_
          try simp only [Act.put, List.setIfInBounds_toArray, List.set_cons_zero, List.set_cons_succ]
          refine wpAnyH_take (i := 8) (oi := { dst := some 57, op := Go.Op.indexAddr 40 (Go.Operand.tmp 55) (Go.Operand.tmp 56), type := 0, pos := "ref.go:107", after := #[{ on := 6, ground := Go.Ground.data }, { on := 7, ground := Go.Ground.data }, { on := 5, ground := Go.Ground.guard }], guard := some (5, false) }) (v := undef) rfl (by kernel_rfl) (by kernel_rfl) (by kernel_rfl) (fun _ _ _ h => h) (Or.inr ⟨by rfl, rfl⟩) (by assumption) ?_
          try simp only [Act.put, List.setIfInBounds_toArray, List.set_cons_zero, List.set_cons_succ]
          refine wpAnyH_take (i := 9) (oi := { dst := some 58, op := Go.Op.load 9 (Go.Operand.tmp 57), type := 9, pos := "ref.go:107", after := #[{ on := 8, ground := Go.Ground.data }, { on := 5, ground := Go.Ground.guard }], guard := some (5, false) }) (v := undef) rfl (by kernel_rfl) (by kernel_rfl) (by kernel_rfl) (fun _ _ _ h => h) (Or.inr ⟨by rfl, rfl⟩) (by assumption) ?_
          try simp only [Act.put, List.setIfInBounds_toArray, List.set_cons_zero, List.set_cons_succ]
          refine wpAnyH_take (i := 10) (oi := { dst := some 59, op := Go.Op.call { callee := Go.Callee.value (Go.Operand.func 26), args := #[Go.Operand.tmp 58, Go.Operand.const (Go.Value.bool false)], argTypes := #[9, 4] }, type := 3, pos := "ref.go:107", after := #[{ on := 9, ground := Go.Ground.data }, { on := 5, ground := Go.Ground.chain }, { on := 5, ground := Go.Ground.guard }], guard := some (5, false) }) (v := undef) rfl (by kernel_rfl) (by kernel_rfl) (by kernel_rfl) (fun _ _ _ h => h) (Or.inr ⟨by rfl, rfl⟩) (by assumption) ?_
          try simp only [Act.put, List.setIfInBounds_toArray, List.set_cons_zero, List.set_cons_succ]
          refine wpAnyH_take (i := 11) (oi := { dst := some 60, op := Go.Op.move (Go.Operand.tmp 8), type := 40, pos := "ref.go:107", after := #[{ on := 5, ground := Go.Ground.guard }], guard := some (5, false) }) (v := undef) rfl (by kernel_rfl) (by kernel_rfl) (by kernel_rfl) (fun _ _ _ h => h) (Or.inr ⟨by rfl, rfl⟩) (by assumption) ?_
          try simp only [Act.put, List.setIfInBounds_toArray, List.set_cons_zero, List.set_cons_succ]
          refine wpAnyH_take (i := 12) (oi := { dst := some 61, op := Go.Op.move (Go.Operand.tmp 11), type := 3, pos := "ref.go:107", after := #[{ on := 5, ground := Go.Ground.guard }], guard := some (5, false) }) (v := undef) rfl (by kernel_rfl) (by kernel_rfl) (by kernel_rfl) (fun _ _ _ h => h) (Or.inr ⟨by rfl, rfl⟩) (by assumption) ?_
          try simp only [Act.put, List.setIfInBounds_toArray, List.set_cons_zero, List.set_cons_succ]
          refine wpAnyH_take (i := 13) (oi := { dst := some 62, op := Go.Op.indexAddr 40 (Go.Operand.tmp 60) (Go.Operand.tmp 61), type := 0, pos := "ref.go:107", after := #[{ on := 11, ground := Go.Ground.data }, { on := 12, ground := Go.Ground.data }, { on := 5, ground := Go.Ground.guard }], guard := some (5, false) }) (v := undef) rfl (by kernel_rfl) (by kernel_rfl) (by kernel_rfl) (fun _ _ _ h => h) (Or.inr ⟨by rfl, rfl⟩) (by assumption) ?_
          try simp only [Act.put, List.setIfInBounds_toArray, List.set_cons_zero, List.set_cons_succ]
          refine wpAnyH_take (i := 14) (oi := { dst := some 63, op := Go.Op.load 9 (Go.Operand.tmp 62), type := 9, pos := "ref.go:107", after := #[{ on := 13, ground := Go.Ground.data }, { on := 5, ground := Go.Ground.guard }], guard := some (5, false) }) (v := undef) rfl (by kernel_rfl) (by kernel_rfl) (by kernel_rfl) (fun _ _ _ h => h) (Or.inr ⟨by rfl, rfl⟩) (by assumption) ?_
          try simp only [Act.put, List.setIfInBounds_toArray, List.set_cons_zero, List.set_cons_succ]
          refine wpAnyH_take (i := 15) (oi := { dst := some 64, op := Go.Op.call { callee := Go.Callee.builtin Go.Builtin.len, args := #[Go.Operand.tmp 63], argTypes := #[9] }, type := 3, pos := "ref.go:107", after := #[{ on := 14, ground := Go.Ground.data }, { on := 5, ground := Go.Ground.guard }], guard := some (5, false) }) (v := undef) rfl (by kernel_rfl) (by kernel_rfl) (by kernel_rfl) (fun _ _ _ h => h) (Or.inr ⟨by rfl, rfl⟩) (by assumption) ?_
          try simp only [Act.put, List.setIfInBounds_toArray, List.set_cons_zero, List.set_cons_succ]
          refine wpAnyH_take (i := 16) (oi := { dst := some 65, op := Go.Op.binOp Go.BinOp.lss 3 (Go.Operand.tmp 59) (Go.Operand.tmp 64) 3, type := 4, pos := "ref.go:107", after := #[{ on := 10, ground := Go.Ground.data }, { on := 15, ground := Go.Ground.data }, { on := 5, ground := Go.Ground.guard }], guard := some (5, false) }) (v := undef) rfl (by kernel_rfl) (by kernel_rfl) (by kernel_rfl) (fun _ _ _ h => h) (Or.inr ⟨by rfl, rfl⟩) (by assumption) ?_
          try simp only [Act.put, List.setIfInBounds_toArray, List.set_cons_zero, List.set_cons_succ]
          refine wpAnyH_take (i := 17) (oi := { dst := some 66, op := Go.Op.pick (Go.Operand.tmp 54) (Go.Operand.const (Go.Value.bool true)) (Go.Operand.tmp 65), type := 4, pos := "ref.go:107", after := #[{ on := 5, ground := Go.Ground.data }, { on := 16, ground := Go.Ground.data }], guard := none }) (v := ?_) rfl (by kernel_rfl) (by kernel_rfl) (by kernel_rfl) (fun _ _ _ h => h) (Or.inl ⟨by rfl, ?_⟩) (by assumption) ?_
          rotate_left
          focus ((intro w hSw; (try dsimp only at hSw); go_simp) <;> (with_reducible rfl))
          try simp only [Act.put, List.setIfInBounds_toArray, List.set_cons_zero, List.set_cons_succ]
          refine wpAnyH_done (by kernel_rfl) ?_ _
          refine NoPanic.normal ?_

          go_wp2_with fail
          go_meet
          exact ⟨by rw [hq1.out], below_eqN hN.out hHeld.1⟩
        · have hne : e.isEmpty = false := by
            cases e with
            | nil => exact absurd rfl h0
            | cons _ _ => rfl
          have hle := prefF_le false e
          obtain ⟨pf, hpf⟩ : ∃ pf, prefF false e = pf := ⟨_, rfl⟩
          have HP := Lib.hid hpf
          have hq1 : Hid (q = decide (pf < e.length)) := Lib.hid (by
            rw [← hq]; unfold badE
            rw [hpf, decide_eq_decide]
            constructor
            · rintro (h | h)
              · exact absurd (List.eq_nil_of_length_eq_zero h) h0
              · omega
            · intro h; right; omega)
          clear hq hyes hnext hpf h0
          refine wp_region_noPanic ?_
          refine wp_region_held_drew (S := fun wx => Below N wr wx ∧ wx.cell? ⟨g, k, none⟩ = some (.string ⟨e.toArray⟩)) (by kernel_rfl) ?_ (fun hHeld => ?_)
          focus ((try dsimp only); ((go_split_ands; refine keepS hN.out hcell hgl ?_; have hN := hN.out; repeat' (first | (with_reducible assumption) | (with_reducible exact Below.refl _ _) | (with_reducible refine Below.drew ?_) | (refine below_transN (wx := ?_) hN ?_ ?_; rotate_left 2; assumption)))))
          try simp only [Act.put, List.setIfInBounds_toArray, List.set_cons_zero, List.set_cons_succ]
          refine wpAnyH_take (i := 0) (oi := { dst := some 49, op := Go.Op.move (Go.Operand.tmp 8), type := 40, pos := "ref.go:107", after := #[], guard := none }) (v := ?_) rfl (by kernel_rfl) (by kernel_rfl) (by kernel_rfl) (fun _ _ _ h => h) (Or.inl ⟨by rfl, ?_⟩) (by assumption) ?_
          rotate_left
          focus ((intro w hSw; (try dsimp only at hSw); go_simp) <;> (with_reducible rfl))
          try simp only [Act.put, List.setIfInBounds_toArray, List.set_cons_zero, List.set_cons_succ]
          refine wpAnyH_take (i := 1) (oi := { dst := some 50, op := Go.Op.move (Go.Operand.tmp 11), type := 3, pos := "ref.go:107", after := #[], guard := none }) (v := ?_) rfl (by kernel_rfl) (by kernel_rfl) (by kernel_rfl) (fun _ _ _ h => h) (Or.inl ⟨by rfl, ?_⟩) (by assumption) ?_
          rotate_left
          focus ((intro w hSw; (try dsimp only at hSw); go_simp) <;> (with_reducible rfl))
          try simp only [Act.put, List.setIfInBounds_toArray, List.set_cons_zero, List.set_cons_succ]
          refine wpAnyH_take (i := 2) (oi := { dst := some 51, op := Go.Op.indexAddr 40 (Go.Operand.tmp 49) (Go.Operand.tmp 50), type := 0, pos := "ref.go:107", after := #[{ on := 0, ground := Go.Ground.data }, { on := 1, ground := Go.Ground.data }], guard := none }) (v := ?_) rfl (by kernel_rfl) (by kernel_rfl) (by kernel_rfl) (fun _ _ _ h => h) (Or.inl ⟨by rfl, ?_⟩) (by assumption) ?_
          rotate_left
          focus ((intro w hSw; (try dsimp only at hSw); go_simp) <;> (with_reducible rfl))
          try simp only [Act.put, List.setIfInBounds_toArray, List.set_cons_zero, List.set_cons_succ]
          refine wpAnyH_take (i := 3) (oi := { dst := some 52, op := Go.Op.load 9 (Go.Operand.tmp 51), type := 9, pos := "ref.go:107", after := #[{ on := 2, ground := Go.Ground.data }], guard := none }) (v := ?_) rfl (by kernel_rfl) (by kernel_rfl) (by kernel_rfl) (fun _ _ _ h => h) (Or.inl ⟨by rfl, ?_⟩) (by assumption) ?_
          rotate_left
          focus ((intro w hSw; (try dsimp only at hSw); go_simp) <;> (with_reducible rfl))
          try simp only [Act.put, List.setIfInBounds_toArray, List.set_cons_zero, List.set_cons_succ]
          refine wpAnyH_take (i := 4) (oi := { dst := some 53, op := Go.Op.binOp Go.BinOp.eql 9 (Go.Operand.tmp 52) (Go.Operand.const (Go.Value.string { data := #[] })) 9, type := 4, pos := "ref.go:107", after := #[{ on := 3, ground := Go.Ground.data }], guard := none }) (v := ?_) rfl (by kernel_rfl) (by kernel_rfl) (by kernel_rfl) (fun _ _ _ h => h) (Or.inl ⟨by rfl, ?_⟩) (by assumption) ?_
          rotate_left
          focus ((intro w hSw; (try dsimp only at hSw); go_simp) <;> (with_reducible rfl))
          try simp only [Act.put, List.setIfInBounds_toArray, List.set_cons_zero, List.set_cons_succ]
          refine wpAnyH_take (i := 5) (oi := { dst := some 54, op := Go.Op.move (Go.Operand.tmp 53), type := 4, pos := "ref.go:107", after := #[{ on := 4, ground := Go.Ground.data }], guard := none }) (v := ?_) rfl (by kernel_rfl) (by kernel_rfl) (by kernel_rfl) (fun _ _ _ h => h) (Or.inl ⟨by rfl, ?_⟩) (by assumption) ?_
          rotate_left
          focus ((intro w hSw; (try dsimp only at hSw); go_simp) <;> (with_reducible rfl))
          try simp only [Act.put, List.setIfInBounds_toArray, List.set_cons_zero, List.set_cons_succ]
          refine wpAnyH_take (i := 6) (oi := { dst := some 55, op := Go.Op.move (Go.Operand.tmp 8), type := 40, pos := "ref.go:107", after := #[{ on := 5, ground := Go.Ground.guard }], guard := some (5, false) }) (v := ?_) rfl (by kernel_rfl) (by kernel_rfl) (by kernel_rfl) (fun _ _ _ h => h) (Or.inl ⟨by rfl, ?_⟩) (by assumption) ?_
          rotate_left
          focus ((intro w hSw; (try dsimp only at hSw); go_simp) <;> (with_reducible rfl))
          try simp only [Act.put, List.setIfInBounds_toArray, List.set_cons_zero, List.set_cons_succ]
          refine wpAnyH_take (i := 7) (oi := { dst := some 56, op := Go.Op.move (Go.Operand.tmp 11), type := 3, pos := "ref.go:107", after := #[{ on := 5, ground := Go.Ground.guard }], guard := some (5, false) }) (v := ?_) rfl (by kernel_rfl) (by kernel_rfl) (by kernel_rfl) (fun _ _ _ h => h) (Or.inl ⟨by rfl, ?_⟩) (by assumption) ?_
          rotate_left
          focus ((intro w hSw; (try dsimp only at hSw); go_simp) <;> (with_reducible rfl))
          try simp only [Act.put, List.setIfInBounds_toArray, List.set_cons_zero, List.set_cons_succ]
          refine wpAnyH_take (i := 8) (oi := { dst := some 57, op := Go.Op.indexAddr 40 (Go.Operand.tmp 55) (Go.Operand.tmp 56), type := 0, pos := "ref.go:107", after := #[{ on := 6, ground := Go.Ground.data }, { on := 7, ground := Go.Ground.data }, { on := 5, ground := Go.Ground.guard }], guard := some (5, false) }) (v := ?_) rfl (by kernel_rfl) (by kernel_rfl) (by kernel_rfl) (fun _ _ _ h => h) (Or.inl ⟨by rfl, ?_⟩) (by assumption) ?_
          rotate_left
          focus ((intro w hSw; (try dsimp only at hSw); go_simp) <;> (with_reducible rfl))
          try simp only [Act.put, List.setIfInBounds_toArray, List.set_cons_zero, List.set_cons_succ]
          refine wpAnyH_take (i := 9) (oi := { dst := some 58, op := Go.Op.load 9 (Go.Operand.tmp 57), type := 9, pos := "ref.go:107", after := #[{ on := 8, ground := Go.Ground.data }, { on := 5, ground := Go.Ground.guard }], guard := some (5, false) }) (v := ?_) rfl (by kernel_rfl) (by kernel_rfl) (by kernel_rfl) (fun _ _ _ h => h) (Or.inl ⟨by rfl, ?_⟩) (by assumption) ?_
          rotate_left
          focus ((intro w hSw; (try dsimp only at hSw); go_simp) <;> (with_reducible rfl))
          try simp only [Act.put, List.setIfInBounds_toArray, List.set_cons_zero, List.set_cons_succ]
          refine wpAnyH_take (i := 11) (oi := { dst := some 60, op := Go.Op.move (Go.Operand.tmp 8), type := 40, pos := "ref.go:107", after := #[{ on := 5, ground := Go.Ground.guard }], guard := some (5, false) }) (v := ?_) rfl (by kernel_rfl) (by kernel_rfl) (by kernel_rfl) (fun _ _ _ h => h) (Or.inl ⟨by rfl, ?_⟩) (by assumption) ?_
          rotate_left
          focus ((intro w hSw; (try dsimp only at hSw); go_simp) <;> (with_reducible rfl))
          try simp only [Act.put, List.setIfInBounds_toArray, List.set_cons_zero, List.set_cons_succ]
          refine wpAnyH_take (i := 12) (oi := { dst := some 61, op := Go.Op.move (Go.Operand.tmp 11), type := 3, pos := "ref.go:107", after := #[{ on := 5, ground := Go.Ground.guard }], guard := some (5, false) }) (v := ?_) rfl (by kernel_rfl) (by kernel_rfl) (by kernel_rfl) (fun _ _ _ h => h) (Or.inl ⟨by rfl, ?_⟩) (by assumption) ?_
          rotate_left
          focus ((intro w hSw; (try dsimp only at hSw); go_simp) <;> (with_reducible rfl))
          try simp only [Act.put, List.setIfInBounds_toArray, List.set_cons_zero, List.set_cons_succ]
          refine wpAnyH_take (i := 13) (oi := { dst := some 62, op := Go.Op.indexAddr 40 (Go.Operand.tmp 60) (Go.Operand.tmp 61), type := 0, pos := "ref.go:107", after := #[{ on := 11, ground := Go.Ground.data }, { on := 12, ground := Go.Ground.data }, { on := 5, ground := Go.Ground.guard }], guard := some (5, false) }) (v := ?_) rfl (by kernel_rfl) (by kernel_rfl) (by kernel_rfl) (fun _ _ _ h => h) (Or.inl ⟨by rfl, ?_⟩) (by assumption) ?_
          rotate_left
          focus ((intro w hSw; (try dsimp only at hSw); go_simp) <;> (with_reducible rfl))
          try simp only [Act.put, List.setIfInBounds_toArray, List.set_cons_zero, List.set_cons_succ]
          refine wpAnyH_take (i := 14) (oi := { dst := some 63, op := Go.Op.load 9 (Go.Operand.tmp 62), type := 9, pos := "ref.go:107", after := #[{ on := 13, ground := Go.Ground.data }, { on := 5, ground := Go.Ground.guard }], guard := some (5, false) }) (v := ?_) rfl (by kernel_rfl) (by kernel_rfl) (by kernel_rfl) (fun _ _ _ h => h) (Or.inl ⟨by rfl, ?_⟩) (by assumption) ?_
          rotate_left
          focus ((intro w hSw; (try dsimp only at hSw); go_simp) <;> (with_reducible rfl))
          try simp only [Act.put, List.setIfInBounds_toArray, List.set_cons_zero, List.set_cons_succ]
          refine wpAnyH_take (i := 15) (oi := { dst := some 64, op := Go.Op.call { callee := Go.Callee.builtin Go.Builtin.len, args := #[Go.Operand.tmp 63], argTypes := #[9] }, type := 3, pos := "ref.go:107", after := #[{ on := 14, ground := Go.Ground.data }, { on := 5, ground := Go.Ground.guard }], guard := some (5, false) }) (v := ?_) rfl (by kernel_rfl) (by kernel_rfl) (by kernel_rfl) (fun _ _ _ h => h) (Or.inl ⟨by rfl, ?_⟩) (by assumption) ?_
          rotate_left
          focus ((intro w hSw; (try dsimp only at hSw); go_simp) <;> (with_reducible rfl))
          try simp only [Act.put, List.setIfInBounds_toArray, List.set_cons_zero, List.set_cons_succ]
          refine wpAnyH_ready (rs := [10]) (by kernel_rfl) (by simp) ?_
          refine AllReadyH.cons (o := { dst := some 59, op := Go.Op.call { callee := Go.Callee.value (Go.Operand.func 26), args := #[Go.Operand.tmp 58, Go.Operand.const (Go.Value.bool false)], argTypes := #[9, 4] }, type := 3, pos := "ref.go:107", after := #[{ on := 9, ground := Go.Ground.data }, { on := 5, ground := Go.Ground.chain }, { on := 5, ground := Go.Ground.guard }], guard := some (5, false) }) rfl (fun K hK => ?_) AllReadyH.nil
          go_simp
          (go_at_call 26; refine (refPrefix_any e hel false _).mono ?_; rintro e' w' ⟨rfl, rfl⟩; rw [HP.out])
          first | (go_wp2_with fail) | skip
          refine hK.out _ _ ?_ (fun hNew => ?_)
          focus ((try dsimp only); ((go_split_ands; refine keepS hN.out hcell hgl ?_; have hN := hN.out; repeat' (first | (with_reducible assumption) | (with_reducible exact Below.refl _ _) | (with_reducible refine Below.drew ?_) | (refine below_transN (wx := ?_) hN ?_ ?_; rotate_left 2; assumption)))))
          clear hK K hHeld
          have hHeld := hNew
          clear hNew
          try simp only [Act.put, List.setIfInBounds_toArray, List.set_cons_zero, List.set_cons_succ]
          refine wpAnyH_take (i := 16) (oi := { dst := some 65, op := Go.Op.binOp Go.BinOp.lss 3 (Go.Operand.tmp 59) (Go.Operand.tmp 64) 3, type := 4, pos := "ref.go:107", after := #[{ on := 10, ground := Go.Ground.data }, { on := 15, ground := Go.Ground.data }, { on := 5, ground := Go.Ground.guard }], guard := some (5, false) }) (v := ?_) rfl (by kernel_rfl) (by kernel_rfl) (by kernel_rfl) (fun _ _ _ h => h) (Or.inl ⟨by rfl, ?_⟩) (by assumption) ?_
          rotate_left
          focus ((intro w hSw; (try dsimp only at hSw); go_simp) <;> (with_reducible rfl))
          try simp only [Act.put, List.setIfInBounds_toArray, List.set_cons_zero, List.set_cons_succ]
          refine wpAnyH_take (i := 17) (oi := { dst := some 66, op := Go.Op.pick (Go.Operand.tmp 54) (Go.Operand.const (Go.Value.bool true)) (Go.Operand.tmp 65), type := 4, pos := "ref.go:107", after := #[{ on := 5, ground := Go.Ground.data }, { on := 16, ground := Go.Ground.data }], guard := none }) (v := ?_) rfl (by kernel_rfl) (by kernel_rfl) (by kernel_rfl) (fun _ _ _ h => h) (Or.inl ⟨by rfl, ?_⟩) (by assumption) ?_
          rotate_left
          focus ((intro w hSw; (try dsimp only at hSw); go_simp) <;> (with_reducible rfl))
          try simp only [Act.put, List.setIfInBounds_toArray, List.set_cons_zero, List.set_cons_succ]
          refine wpAnyH_done (by kernel_rfl) ?_ _
          refine NoPanic.normal ?_

          go_wp2_with fail
          go_meet
          exact ⟨by rw [hq1.out], below_eqN hN.out hHeld.1⟩
      case rest =>
      obtain ⟨rfl, hc⟩ := hcut
      have hrow := own_below hrow hc
      have hB := hB.trans (hc.mono hB.size)
      clear hc hN hcell hgl hq
      cases q
      · go_wp2_with fail
        go_roundw
        case rel => exact ⟨k + 1, by omega, by go_num, Lib.hid (by rw [hnext.out]; rfl), hrow, hB⟩
        case measure => simp [intOf]; omega
      · have hres := Lib.hid (hyes.out rfl)
        go_wp2_with fail
        go_ret2
        exact ⟨by unfold sameV; rw [hres.out]; rfl, hB⟩
    · have d1 : decide ((k : Int) < (P.length : Int)) = false := decide_eq_false (by omega)
      have hno2 : Hid (P.any badE = false) := Lib.hid (by rw [← hno.out, List.take_of_length_le (by omega)])
      clear hno
      rw [← rowAt_zero] at hrow
      obtain ⟨F0, hF⟩ : ∃ F, numL false (P.headD []) = F := ⟨_, rfl⟩
      have HF := Lib.hid hF
      have hhd : P.headD [] = P[0] := by
        cases P with
        | nil => simp at hel2
        | cons c r => rfl
      have HH := Lib.hid hhd
      clear hF hhd
      go_wp2_with fail
      go_loopw [12, 13] (fun f i wr => ∃ k m : Nat, k ≤ P.length ∧ i = .int .i64 k ∧ f = .int .u64 (m : Int) ∧ Hid (0 < k → m = F0) ∧ Hid ((P.take k).all (fun e => !(errE digits most e)) = true) ∧ wr.ownsRow w.heap.size 9 1 (.slice (some ⟨g, 0, none⟩) P.length cap) P.length (rowAt P k) ∧ Below w.heap.size w wr)
        (fun _ i _ => P.length - (intOf i).toNat)
      case atStart => exact ⟨0, 0, Nat.zero_le _, rfl, rfl, Lib.hid (fun h => by omega), Lib.hid (by rw [List.take_zero]; rfl), hrow, hB⟩
      case round =>
      clear hrow hB
      obtain ⟨k, m, hk, rfl, rfl, hm, hok, hrow, hB⟩ := hrel
      have hgl : g < wr.heap.size := (hrow.lt g rfl).2
      by_cases hlt : k < P.length
      · have d1 : decide ((k : Int) < (P.length : Int)) = true := decide_eq_true (by omega)
        have hb2 : (k : Int) < (P.length : Int) := by omega
        have hstep := all_take hlt (fun e => !(errE digits most e))
        have hset := rowAt_set hlt
        obtain ⟨e, he⟩ : ∃ e, P[k] = e := ⟨_, rfl⟩
        have hcell : wr.cell? ⟨g, k, none⟩ = some (.string ⟨e.toArray⟩) := by
          rw [hrow.cellAt k (by omega), rowAt_at hlt, he]; rfl
        have hel : e.length < 1000000 := by
          have := HM.out e (by rw [← he]; exact List.getElem_mem hlt)
          omega
        rw [he, hok.out] at hstep
        rw [he] at hset
        have hset := Lib.hid hset
        cases hq : errE digits most e
        · obtain ⟨hr, hu⟩ := errE_no hq
          rw [hq] at hstep
          have hnext := Lib.hid hstep
          have hk0 : Hid (k = 0 → numL false e = F0) := Lib.hid (fun h => by
            subst h
            rw [← HF.out, HH.out, he])
          obtain ⟨x, hx⟩ : ∃ x, numL false e = x := ⟨_, rfl⟩
          rw [hx] at hr hu hk0
          have HR : Hid (readV false e digits most = .tuple #[.int .u64 (x : Nat), .int .i64 0]) := Lib.hid (by unfold readV; rw [hr]; rfl)
          obtain ⟨D, hD⟩ : ∃ D, digL 10 x = D := ⟨_, rfl⟩
          have HD := Lib.hid hD
          have hsD : Hid (strD e = .string ⟨D.toArray⟩) := Lib.hid (by unfold strD; rw [hx, hD])
          have hm2 : Hid (0 < k → m = F0) := hm
          clear hstep he hq hr hx hD hm hok
          by_cases h0 : k = 0
          · subst h0
            have hxF : Hid (x = F0) := Lib.hid (hk0.out rfl)
            clear hk0 hm2
            go_wp2_with fail
            refine (refDec_any e hel digits most _).mono ?_
            rintro e' w' ⟨rfl, rfl⟩
            rw [HR.out]
            go_wp2_with fail
            refine (refDecText_any x hu _).mono ?_
            rintro e' w1 ⟨rfl, hb⟩
            rw [HD.out]
            have hrow := own_below hrow hb
            have hB := hB.trans (hb.mono hB.size)
            have hcell := hrow.cellAt 0 (by omega)
            rw [rowAt_at (by omega)] at hcell
            have hfz := hrow.frozenAt 0
            obtain ⟨hrow2, hgr⟩ := hrow.stored 0 (.string ⟨D.toArray⟩)
            rw [← hsD.out, hset.out] at hrow2
            rw [hsD.out] at hrow2
            have hB2 := below_grown hB hB.size hgr (fun r hr => by injection hr with hr; omega)
            clear hb hrow hB hgr
            go_wp2_with fail
            go_roundw
            case rel => exact ⟨1, x, by omega, by go_num, rfl, Lib.hid (fun _ => hxF.out), Lib.hid (by rw [hnext.out]; rfl), hrow2, hB2⟩
            case measure => simp [intOf]; omega
          · have hmF : Hid (m = F0) := Lib.hid (hm2.out (by omega))
            have e1 : ((k : Int) == 0) = false := by rw [beq_eq_false_iff_ne]; omega
            have e2 : (k == 0) = false := by rw [beq_eq_false_iff_ne]; omega
            clear hk0 hm2
            go_wp2_with fail
            refine (refDec_any e hel digits most _).mono ?_
            rintro e' w' ⟨rfl, rfl⟩
            rw [HR.out]
            go_wp2_with fail
            refine (refDecText_any x hu _).mono ?_
            rintro e' w1 ⟨rfl, hb⟩
            rw [HD.out]
            have hrow := own_below hrow hb
            have hB := hB.trans (hb.mono hB.size)
            have hcell := hrow.cellAt k (by omega)
            rw [rowAt_at (by omega)] at hcell
            have hfz := hrow.frozenAt k
            obtain ⟨hrow2, hgr⟩ := hrow.stored k (.string ⟨D.toArray⟩)
            rw [← hsD.out, hset.out] at hrow2
            rw [hsD.out] at hrow2
            have hB2 := below_grown hB hB.size hgr (fun r hr => by injection hr with hr; omega)
            clear hb hrow hB hgr
            go_wp2_with fail
            go_roundw
            case rel => exact ⟨k + 1, m, by omega, by go_num, rfl, Lib.hid (fun _ => hmF.out), Lib.hid (by rw [hnext.out]; rfl), hrow2, hB2⟩
            case measure => simp [intOf]; omega
        · obtain ⟨⟨rn, re⟩, hr⟩ : ∃ r, readR false e digits most = r := ⟨_, rfl⟩
          have hres : Hid (sameR l digits most = (0, re)) := Lib.hid (by
            have hf := find_at (f := errE digits most) hlt hok.out (by rw [he]; exact hq)
            unfold sameR
            rw [HE.out, hno2.out]
            show (match P.find? (errE digits most) with | some e => _ | none => _) = _
            rw [hf, he]
            show (0, (readR false e digits most).2) = _
            rw [hr])
          have HR : Hid (readV false e digits most = .tuple #[.int .u64 (rn : Nat), .int .i64 (re : Nat)]) := Lib.hid (by unfold readV; rw [hr])
          have hre : ((re : Int) == 0) = false := by
            unfold errE at hq
            rw [hr] at hq
            rw [beq_eq_false_iff_ne]
            intro h
            have : re = 0 := by omega
            rw [this] at hq
            cases hq
          clear hstep he hq hr hm hok hset
          go_wp2_with fail
          refine (refDec_any e hel digits most _).mono ?_
          rintro e' w' ⟨rfl, rfl⟩
          rw [HR.out]
          go_wp2_with fail
          go_ret2
          exact ⟨by unfold sameV; rw [hres.out]; rfl, hB⟩
      · have d1 : decide ((k : Int) < (P.length : Int)) = false := decide_eq_false (by omega)
        have hkP : k = P.length := by omega
        subst hkP
        rw [rowAt_all] at hrow
        have hmF := hm.out hel2
        have hall : P.all (fun e => !(errE digits most e)) = true := by rw [← hok.out, List.take_length]
        have hsame : Hid (sameR l digits most = if P.all (fun e => numL false e == F0) then (F0, 0) else (0, 7)) := Lib.hid (by
          have hf := find_none hall
          unfold sameR
          rw [HE.out, hno2.out]
          show (match P.find? (errE digits most) with | some e => _ | none => _) = _
          rw [hf]
          show (if P.all (fun e => numL false e == numL false (P.headD [])) = true then _ else _) = _
          rw [HF.out])
        have HALL := Lib.hid hall
        subst hmF
        clear hm hok hall
        have hF0 : m < U64 := by
          rw [← HF.out, HH.out]
          have := List.all_eq_true.1 HALL.out _ (List.getElem_mem hel2)
          exact (errE_no (digits := digits) (most := most) (by simpa using this)).2
        obtain ⟨T, HT⟩ : ∃ T, Hid (digL 10 m = T) := ⟨_, Lib.hid rfl⟩
        go_wp2_with fail
        go_loopw [16] (fun i wr => ∃ k : Nat, k ≤ P.length ∧ i = .int .i64 k ∧ Hid ((P.take k).all (fun e => numL false e == m) = true) ∧ wr.ownsRow w.heap.size 9 1 (.slice (some ⟨g, 0, none⟩) P.length cap) P.length (P.map strD) ∧ Below w.heap.size w wr)
          (fun i _ => P.length - (intOf i).toNat)
        case atStart => exact ⟨0, Nat.zero_le _, rfl, Lib.hid (by rw [List.take_zero]; rfl), hrow, hB⟩
        case round =>
        clear hrow hB
        obtain ⟨k, hk, rfl, hok, hrow, hB⟩ := hrel
        have hgl : g < wr.heap.size := (hrow.lt g rfl).2
        by_cases hlt : k < P.length
        · have d1 : decide ((k : Int) < (P.length : Int)) = true := decide_eq_true (by omega)
          have hb2 : (k : Int) < (P.length : Int) := by omega
          have hstep := all_take hlt (fun e => numL false e == m)
          obtain ⟨e, he⟩ : ∃ e, P[k] = e := ⟨_, rfl⟩
          have hu : numL false e < U64 := by
            have := List.all_eq_true.1 HALL.out e (by rw [← he]; exact List.getElem_mem hlt)
            exact (errE_no (digits := digits) (most := most) (by simpa using this)).2
          obtain ⟨D, hD⟩ : ∃ D, digL 10 (numL false e) = D := ⟨_, rfl⟩
          have hcell : wr.cell? ⟨g, k, none⟩ = some (.string ⟨D.toArray⟩) := by
            rw [hrow.cellAt k (by omega), List.getElem?_map, List.getElem?_eq_getElem hlt, he]
            show some (Value.string ⟨(digL 10 (numL false e)).toArray⟩) = _
            rw [hD]
          rw [he, hok.out] at hstep
          obtain ⟨q, hq⟩ : ∃ q, (numL false e == m) = q := ⟨_, rfl⟩
          rw [hq] at hstep
          have hnext := Lib.hid hstep
          have hqD : (D == T) = q := by
            rw [← hq, ← hD, ← HT.out, Bool.eq_iff_iff, beq_iff_eq, beq_iff_eq]
            exact ⟨fun h => digL_inj hu hF0 h, fun h => by rw [h]⟩
          have hqD2 : Hid ((!(D == T)) = !q) := Lib.hid (by rw [hqD])
          have hbad : Hid (q = false → sameR l digits most = (0, 7)) := Lib.hid (fun h => by
            rw [hsame.out, if_neg]
            intro ha
            have := List.all_eq_true.1 ha e (by rw [← he]; exact List.getElem_mem hlt)
            rw [hq, h] at this
            cases this)
          obtain ⟨N, hN⟩ : ∃ N, Hid (wr.heap.size = N) := ⟨_, Lib.hid rfl⟩
          clear hstep he hq hD hu hok hqD
          go_upto_region 27 with fail
          go_cut [106] (fun p wx => p = .bool (!q) ∧ Below wr.heap.size wr wx)
          case first =>
            clear hbad hnext
            refine wp_region_noPanic ?_
            refine wp_region_held_drew (S := fun wx => Below N wr wx ∧ wx.cell? ⟨g, k, none⟩ = some (.string ⟨D.toArray⟩)) (by kernel_rfl) ?_ (fun hHeld => ?_)
            focus ((try dsimp only); ((go_split_ands; refine keepS hN.out hcell hgl ?_; have hN := hN.out; repeat' (first | (with_reducible assumption) | (with_reducible exact Below.refl _ _) | (with_reducible refine Below.drew ?_) | (refine below_transN (wx := ?_) hN ?_ ?_; rotate_left 2; assumption)))))
            try simp only [Act.put, List.setIfInBounds_toArray, List.set_cons_zero, List.set_cons_succ]
            refine wpAnyH_take (i := 0) (oi := { dst := some 100, op := Go.Op.move (Go.Operand.tmp 8), type := 40, pos := "ref.go:123", after := #[], guard := none }) (v := ?_) rfl (by kernel_rfl) (by kernel_rfl) (by kernel_rfl) (fun _ _ _ h => h) (Or.inl ⟨by rfl, ?_⟩) (by assumption) ?_
            rotate_left
            focus ((intro w hSw; (try dsimp only at hSw); go_simp) <;> (with_reducible rfl))
            try simp only [Act.put, List.setIfInBounds_toArray, List.set_cons_zero, List.set_cons_succ]
            refine wpAnyH_take (i := 1) (oi := { dst := some 101, op := Go.Op.move (Go.Operand.tmp 16), type := 3, pos := "ref.go:123", after := #[], guard := none }) (v := ?_) rfl (by kernel_rfl) (by kernel_rfl) (by kernel_rfl) (fun _ _ _ h => h) (Or.inl ⟨by rfl, ?_⟩) (by assumption) ?_
            rotate_left
            focus ((intro w hSw; (try dsimp only at hSw); go_simp) <;> (with_reducible rfl))
            try simp only [Act.put, List.setIfInBounds_toArray, List.set_cons_zero, List.set_cons_succ]
            refine wpAnyH_take (i := 2) (oi := { dst := some 102, op := Go.Op.indexAddr 40 (Go.Operand.tmp 100) (Go.Operand.tmp 101), type := 0, pos := "ref.go:123", after := #[{ on := 0, ground := Go.Ground.data }, { on := 1, ground := Go.Ground.data }], guard := none }) (v := ?_) rfl (by kernel_rfl) (by kernel_rfl) (by kernel_rfl) (fun _ _ _ h => h) (Or.inl ⟨by rfl, ?_⟩) (by assumption) ?_
            rotate_left
            focus ((intro w hSw; (try dsimp only at hSw); go_simp) <;> (with_reducible rfl))
            try simp only [Act.put, List.setIfInBounds_toArray, List.set_cons_zero, List.set_cons_succ]
            refine wpAnyH_take (i := 3) (oi := { dst := some 103, op := Go.Op.load 9 (Go.Operand.tmp 102), type := 9, pos := "ref.go:123", after := #[{ on := 2, ground := Go.Ground.data }], guard := none }) (v := ?_) rfl (by kernel_rfl) (by kernel_rfl) (by kernel_rfl) (fun _ _ _ h => h) (Or.inl ⟨by rfl, ?_⟩) (by assumption) ?_
            rotate_left
            focus ((intro w hSw; (try dsimp only at hSw); go_simp) <;> (with_reducible rfl))
            try simp only [Act.put, List.setIfInBounds_toArray, List.set_cons_zero, List.set_cons_succ]
            refine wpAnyH_take (i := 4) (oi := { dst := some 104, op := Go.Op.move (Go.Operand.tmp 12), type := 23, pos := "ref.go:123", after := #[], guard := none }) (v := ?_) rfl (by kernel_rfl) (by kernel_rfl) (by kernel_rfl) (fun _ _ _ h => h) (Or.inl ⟨by rfl, ?_⟩) (by assumption) ?_
            rotate_left
            focus ((intro w hSw; (try dsimp only at hSw); go_simp) <;> (with_reducible rfl))
            try simp only [Act.put, List.setIfInBounds_toArray, List.set_cons_zero, List.set_cons_succ]
            refine wpAnyH_ready (rs := [5]) (by kernel_rfl) (by simp) ?_
            refine AllReadyH.cons (o := { dst := some 105, op := Go.Op.call { callee := Go.Callee.value (Go.Operand.func 23), args := #[Go.Operand.tmp 104], argTypes := #[23] }, type := 9, pos := "ref.go:123", after := #[{ on := 4, ground := Go.Ground.data }], guard := none }) rfl (fun K hK => ?_) AllReadyH.nil
            go_simp
            (go_at_call 23; refine (refDecText_any m hF0 _).mono ?_; rintro e' w' ⟨rfl, hb⟩; rw [HT.out])
            first | (go_wp2_with fail) | skip
            refine hK.out _ _ ?_ (fun hNew => ?_)
            focus ((try dsimp only); ((go_split_ands; refine keepS hN.out hcell hgl ?_; have hN := hN.out; repeat' (first | (with_reducible assumption) | (with_reducible exact Below.refl _ _) | (with_reducible refine Below.drew ?_) | (refine below_transN (wx := ?_) hN ?_ ?_; rotate_left 2; assumption)))))
            clear hK K hHeld
            have hHeld := hNew
            clear hNew
            try simp only [Act.put, List.setIfInBounds_toArray, List.set_cons_zero, List.set_cons_succ]
            refine wpAnyH_take (i := 6) (oi := { dst := some 106, op := Go.Op.binOp Go.BinOp.neq 9 (Go.Operand.tmp 103) (Go.Operand.tmp 105) 9, type := 4, pos := "ref.go:123", after := #[{ on := 3, ground := Go.Ground.data }, { on := 5, ground := Go.Ground.data }], guard := none }) (v := ?_) rfl (by kernel_rfl) (by kernel_rfl) (by kernel_rfl) (fun _ _ _ h => h) (Or.inl ⟨by rfl, ?_⟩) (by assumption) ?_
            rotate_left
            focus ((intro w hSw; (try dsimp only at hSw); go_simp) <;> (with_reducible rfl))
            try simp only [Act.put, List.setIfInBounds_toArray, List.set_cons_zero, List.set_cons_succ]
            refine wpAnyH_done (by kernel_rfl) ?_ _
            refine NoPanic.normal ?_

            go_wp2_with fail
            go_meet
            exact ⟨by rw [hqD2.out], below_eqN hN.out hHeld.1⟩
          case rest =>
          obtain ⟨rfl, hc⟩ := hcut
          have hrow := own_below hrow hc
          have hB := hB.trans (hc.mono hB.size)
          clear hc hN hcell hgl hqD2
          cases q
          · have hres := Lib.hid (hbad.out rfl)
            go_wp2_with fail
            go_ret2
            exact ⟨by unfold sameV; rw [hres.out]; rfl, hB⟩
          · go_wp2_with fail
            go_roundw
            case rel => exact ⟨k + 1, by omega, by go_num, Lib.hid (by rw [hnext.out]; rfl), hrow, hB⟩
            case measure => simp [intOf]; omega
        · have d1 : decide ((k : Int) < (P.length : Int)) = false := decide_eq_false (by omega)
          have hres : Hid (sameR l digits most = (m, 0)) := Lib.hid (by
            rw [hsame.out, if_pos]
            rw [← hok.out, List.take_of_length_le (by omega)])
          go_wp2_with fail
          go_ret2
          exact ⟨by unfold sameV; rw [hres.out]; rfl, hB⟩
end Go.Proofs.YtekbahpobhjobaaDoor
