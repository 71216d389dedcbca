/-
  The program's divide at one separator, the comma: the trimmed pieces of a list, as slices of its bytes.
-/
import Derived.Test.YtekbahpobhjobaaDoorNTrimB
import Derived.Maps.AppendAt
import Derived.Deep.AppendLies
import Derived.Deep.RegionLaw
import Derived.Laws.OwnMore
import Derived.Laws.DeepStrings4
import Derived.Deep.RegionHeld3
import Derived.Deep.QuietTactic
import Derived.BigQuiet
import Derived.LoopN
import Derived.Test.YtekbahpobhjobaaDoorNSame
namespace Go.Proofs.YtekbahpobhjobaaDoor
open Go.RowKit
theorem infoB : (Tryd.prog.info? 37).map (fun i => (i.zero, i.size, i.bytes)) = some (some (.slice none 0 0), 1, 24) := by kernel_rfl
/-- The slices hold the texts. -/
def Parts (w : World) : List Value → List (List UInt8) → Prop
  | [], [] => True
  | v :: vs, e :: es => IsPart w v e ∧ Parts w vs es
  | _, _ => False
theorem Parts.length {w : World} : ∀ {xs : List Value} {es : List (List UInt8)}, Parts w xs es → xs.length = es.length
  | [], [], _ => rfl
  | _ :: _, _ :: _, h => by rw [List.length_cons, List.length_cons, Parts.length h.2]
  | [], _ :: _, h => h.elim
  | _ :: _, [], h => h.elim
theorem Parts.snoc {w : World} {v : Value} {e : List UInt8} (h1 : IsPart w v e) : ∀ {xs : List Value} {es : List (List UInt8)}, Parts w xs es → Parts w (xs ++ [v]) (es ++ [e])
  | [], [], _ => ⟨h1, trivial⟩
  | _ :: _, _ :: _, h => ⟨h.1, Parts.snoc h1 h.2⟩
  | [], _ :: _, h => h.elim
  | _ :: _, [], h => h.elim
theorem Parts.at {w : World} : ∀ {xs : List Value} {es : List (List UInt8)}, Parts w xs es → ∀ (k : Nat) (h1 : k < xs.length) (h2 : k < es.length), IsPart w xs[k] es[k]
  | [], [], _, k, h1, _ => absurd h1 (by simp)
  | _ :: _, _ :: _, h, 0, _, _ => h.1
  | _ :: _, _ :: _, h, k + 1, h1, h2 => Parts.at h.2 k (by simpa using h1) (by simpa using h2)
  | [], _ :: _, h, _, _, _ => h.elim
  | _ :: _, [], h, _, _, _ => h.elim
theorem IsPart.one {w : World} {v : Value} {e : List UInt8} (h : IsPart w v e) : v.oneCell' = true := by
  obtain ⟨p, cap, rfl, -⟩ := h
  rfl
/-- The part from a up to k. -/
theorem part_cut {w : World} {b off : Nat} {l : List UInt8} (h : CellsIn w (some ⟨b, off, none⟩) l.length (byteC l)) {a k : Nat} (h1 : a ≤ k) (h2 : k ≤ l.length) : CellsIn w (some ⟨b, off + a, none⟩) (subL l a k).length (byteC (subL l a k)) := by
  have e : l = l.take a ++ subL l a k ++ l.drop k := by
    unfold subL
    have e1 : l.take a = (l.take k).take a := by rw [List.take_take, Nat.min_eq_left h1]
    rw [e1, List.take_append_drop, List.take_append_drop]
  have := part_sub h (l.take a) (subL l a k) (l.drop k) e
  rw [List.length_take, Nat.min_eq_left (by omega)] at this
  exact this
theorem part_end {w : World} {p : Option Addr} {l : List UInt8} (h : CellsIn w p l.length (byteC l)) {a : Nat} (h1 : a ≤ l.length) : CellsIn w (p.map (fun x => x.add a)) (subL l a l.length).length (byteC (subL l a l.length)) := fun j hj => by
  have h0 : 0 < l.length := by
    unfold subL at hj
    rw [List.length_drop, List.length_take, Nat.min_self] at hj
    omega
  obtain ⟨b, off, rfl, -, -⟩ := h 0 h0
  have := part_cut h h1 (Nat.le_refl _) j hj
  rw [Option.map_some, Lib.add_plain]
  exact this
theorem subL_len (l : List UInt8) {a k : Nat} (h2 : k ≤ l.length) : (subL l a k).length = k - a := by
  unfold subL
  rw [List.length_drop, List.length_take, Nat.min_eq_left h2]
set_option maxRecDepth 100000 in
set_option maxHeartbeats 8000000 in
theorem divide_any (l : List UInt8) (hl : l.length < 100000) (p : Option Addr) (cap : Nat) (hc1 : l.length ≤ cap) (hc2 : cap ≤ 9223372036854775807) (q : Option Addr) (w : World) (hc : CellsIn w p l.length (byteC l)) (hq : CellsIn w q 1 (fun _ => .int .u8 44)) :
    Calls Tryd.prog 31 #[.slice p l.length cap, .slice q 1 1] w fun e w' => ∃ v xs, e = .returned v ∧ w'.ownsRow w.heap.size 37 1 v xs.length xs ∧ Parts w xs (elemsL l) ∧ Below w.heap.size w w' := by
  obtain ⟨i0, hi, hz0, hz1, hz2⟩ := info_parts infoB
  obtain ⟨E, hE⟩ : ∃ E, elemsL l = E := ⟨_, rfl⟩
  rw [hE]
  have HE := Lib.hid hE
  have HC : Hid (CellsIn w p l.length (byteC l)) := hc
  have HQ : Hid (CellsIn w q 1 (fun _ => .int .u8 44)) := hq
  clear hE hc hq
  go_enter Tryd.func31, Tryd.ntmps31
  go_wp2_with fail
  go_step3
  go_wp2_with fail
  go_step3
  go_wp2_with fail
  go_loopw [5, 6, 13] (fun v j i wr => ∃ (a k : Nat) (P : List (List UInt8)) (xs : List Value), a ≤ k ∧ k ≤ l.length ∧ j = .int .i64 a ∧ i = .int .i64 k ∧ P.length ≤ k ∧ Parts w xs P ∧ wr.ownsRow w.heap.size 37 1 v xs.length xs ∧
      Hid (P ++ (piecesF (l.drop k) (subL l a k)).map trimL = E) ∧ Below w.heap.size w wr)
    (fun _ _ i _ => l.length - (intOf i).toNat)
  case atStart =>
    exact ⟨0, 0, [], [], Nat.le_refl _, Nat.zero_le _, rfl, rfl, Nat.le_refl _, trivial, World.ownsRow_nil _ _ _ _, Lib.hid (by rw [List.drop_zero, subL_none, List.nil_append]; exact HE.out), Below.refl _ _⟩
  case round =>
  obtain ⟨a, k, P, xs, hak, hk, rfl, rfl, hP, hxs, hrow, hst, hB⟩ := hrel
  have hxl := hxs.length
  by_cases hlt : k < l.length
  · have d1 : decide ((k : Int) < (l.length : Int)) = true := decide_eq_true (by omega)
    have hb2 : (k : Int) < (l.length : Int) := by omega
    obtain ⟨b, off, rfl, hbw, hcl⟩ := HC.out k hlt
    have hcell := (hB.cell (p := ⟨b, off + k, none⟩) hbw).trans hcl
    rw [byteC_at hlt] at hcell
    obtain ⟨qb, qo, rfl, hqw, hql⟩ := HQ.out 0 (by omega)
    have hcellq := (hB.cell (p := ⟨qb, qo + 0, none⟩) hqw).trans hql
    rw [Nat.add_zero] at hcellq
    obtain ⟨z, hz⟩ : ∃ z, l[k] = z := ⟨_, rfl⟩
    rw [hz] at hcell
    obtain ⟨y, hy⟩ : ∃ y, z.toNat = y := ⟨_, rfl⟩
    rw [hy] at hcell
    by_cases h44 : y = 44
    · have hz44 : l[k] = 44 := by rw [hz]; exact UInt8.toNat_inj.1 (by rw [hy, h44]; rfl)
      have hnext : Hid (P ++ [trimL (subL l a k)] ++ (piecesF (l.drop (k + 1)) (subL l (k + 1) (k + 1))).map trimL = E) := Lib.hid (by
        rw [← hst.out, piecesF_comma hlt hz44, subL_none]; simp)
      have hcut := part_cut HC.out hak hk
      have hsl := subL_len l (a := a) hk
      have hak2 : (a : Int) ≤ (k : Int) := by omega
      have hkc : (k : Int) ≤ (cap : Int) := by omega
      subst h44
      clear hst hz44 hz hcl hql
      go_wp2_with fail
      refine wp_loop_rounds 2 ?_
      rw [rounds_succ]
      go_wp2_with fail
      rw [← hsl]
      refine (trim_any _ _ (subL l a k) wr (by rw [hsl]; omega) (by omega) (hcut.below hB (Nat.le_refl _))).mono ?_
      rintro e w2 ⟨v, rfl, hpart, hb⟩
      have hv := hpart w hcut
      have hv2 := hv
      obtain ⟨pp, pc, rfl, -⟩ := hv2
      have hrow2 := own_below hrow hb
      have hB2 := hB.trans (hb.mono hB.size)
      clear hrow hpart hb hcut
      obtain ⟨Q, hQ⟩ : ∃ Q, trimL (subL l a k) = Q := ⟨_, rfl⟩
      rw [hQ] at hv hnext
      rw [hQ]
      clear hQ
      go_wp2_with (at_builtin; refine wpList_append_own _ rfl _ _ 43 rfl w.heap.size 37 i0 (.slice none 0 0) 1 24 Tryd.underlying43 hi hz0 hz1 hz2 rfl (by decide) _ _ _ rfl (hrow2.alloc _) ⟨w2.heap.size, 0, none⟩ 1 1 [.slice pp (Q).length pc] rfl rfl (cell_one_new _ _ _) (by simp [Value.oneCell']) (by unfold maxLen; omega) (by omega) (by have := hB2.size; simp; omega) ?_; intro v' w1 hown' hgrow _)
      go_roundw
      case rel =>
        refine ⟨k + 1, k + 1, P ++ [Q], xs ++ [.slice pp Q.length pc], Nat.le_refl _, by omega, by go_num, by go_num, by rw [List.length_append]; exact Nat.add_le_add hP (Nat.le_refl 1), Parts.snoc hv hxs, ?_, hnext, below_grown (hB2.alloc hB2.size _) (by have := hB2.size; simp; omega) hgrow (own_ge hrow2 _ (Nat.le_refl _))⟩
        rw [List.length_append]
        exact hown'
      case measure => simp [intOf]; omega
    · have hz44 : l[k] ≠ 44 := by intro e; apply h44; rw [← hy, ← hz, e]; rfl
      have hnext : Hid (P ++ (piecesF (l.drop (k + 1)) (subL l a (k + 1))).map trimL = E) := Lib.hid (by
        rw [← hst.out, piecesF_more hlt hz44, subL_more hak hlt])
      have d2 : ((y : Int) == 44) = false := by rw [beq_eq_false_iff_ne]; omega
      clear hst hz44 hz hcl hql
      go_wp2_with fail
      refine wp_loop_rounds 2 ?_
      rw [rounds_succ]
      go_wp2_with fail
      rw [rounds_succ]
      go_wp2_with fail
      go_roundw
      case rel => exact ⟨a, k + 1, P, xs, by omega, by omega, rfl, by go_num, by omega, hxs, hrow, hnext, hB⟩
      case measure => simp [intOf]; omega
  · obtain rfl : k = l.length := by omega
    have d1 : decide ((l.length : Int) < (l.length : Int)) = false := decide_eq_false (by omega)
    have hres : Hid (P ++ [trimL (subL l a l.length)] = E) := Lib.hid (by rw [← hst.out, List.drop_length]; rfl)
    have hcut := part_end HC.out hak
    have hsl := subL_len l (a := a) (Nat.le_refl l.length)
    have hak2 : (a : Int) ≤ (l.length : Int) := by omega
    have hac : (a : Int) ≤ (cap : Int) := by omega
    clear hst
    by_cases hca : cap = a
    · subst hca
      have hs0 : subL l cap l.length = [] := List.eq_nil_of_length_eq_zero (by rw [hsl]; omega)
      go_wp2_with fail
      refine (trim_any _ _ [] wr (Nat.zero_le _) (by omega) (fun j hj => absurd hj (by simp))).mono ?_
      rintro e w2 ⟨v, rfl, hpart, hb⟩
      have hv := hpart w (fun j hj => absurd hj (by simp))
      have hv2 := hv
      have hrow2 := own_below hrow hb
      have hB2 := hB.trans (hb.mono hB.size)
      obtain ⟨pp, pc, rfl, -⟩ : IsPart w v (trimL []) := hv
      clear hrow hpart hb
      obtain ⟨Q, hQ⟩ : ∃ Q, trimL ([] : List UInt8) = Q := ⟨_, rfl⟩
      rw [hs0] at hres
      rw [hQ] at hv2 hres
      rw [hQ]
      clear hQ
      go_wp2_with (at_builtin; refine wpList_append_own _ rfl _ _ 43 rfl w.heap.size 37 i0 (.slice none 0 0) 1 24 Tryd.underlying43 hi hz0 hz1 hz2 rfl (by decide) _ _ _ rfl (hrow2.alloc _) ⟨w2.heap.size, 0, none⟩ 1 1 [.slice pp (Q).length pc] rfl rfl (cell_one_new _ _ _) (by simp [Value.oneCell']) (by unfold maxLen; omega) (by omega) (by have := hB2.size; simp; omega) ?_; intro v' w1 hown' hgrow _)
      rw [Exit.noGoto_ret]
      go_ret
      refine ⟨v', xs ++ [.slice pp Q.length pc], rfl, ?_, ?_, below_grown (hB2.alloc hB2.size _) (by have := hB2.size; simp; omega) hgrow (own_ge hrow2 _ (Nat.le_refl _))⟩
      · rw [List.length_append]
        exact hown'
      · rw [← hres.out]
        exact Parts.snoc hv2 hxs
    · go_wp2_with fail
      rw [← hsl]
      refine (trim_any _ _ (subL l a l.length) wr (by rw [hsl]; omega) (by omega) (hcut.below hB (Nat.le_refl _))).mono ?_
      rintro e w2 ⟨v, rfl, hpart, hb⟩
      have hv := hpart w hcut
      have hv2 := hv
      have hrow2 := own_below hrow hb
      have hB2 := hB.trans (hb.mono hB.size)
      obtain ⟨pp, pc, rfl, -⟩ : IsPart w v (trimL (subL l a l.length)) := hv
      clear hrow hpart hb
      obtain ⟨Q, hQ⟩ : ∃ Q, trimL (subL l a l.length) = Q := ⟨_, rfl⟩
      rw [hQ] at hv2 hres
      rw [hQ]
      clear hQ
      go_wp2_with (at_builtin; refine wpList_append_own _ rfl _ _ 43 rfl w.heap.size 37 i0 (.slice none 0 0) 1 24 Tryd.underlying43 hi hz0 hz1 hz2 rfl (by decide) _ _ _ rfl (hrow2.alloc _) ⟨w2.heap.size, 0, none⟩ 1 1 [.slice pp (Q).length pc] rfl rfl (cell_one_new _ _ _) (by simp [Value.oneCell']) (by unfold maxLen; omega) (by omega) (by have := hB2.size; simp; omega) ?_; intro v' w1 hown' hgrow _)
      rw [Exit.noGoto_ret]
      go_ret
      refine ⟨v', xs ++ [.slice pp Q.length pc], rfl, ?_, ?_, below_grown (hB2.alloc hB2.size _) (by have := hB2.size; simp; omega) hgrow (own_ge hrow2 _ (Nat.le_refl _))⟩
      · rw [List.length_append]
        exact hown'
      · rw [← hres.out]
        exact Parts.snoc hv2 hxs
end Go.Proofs.YtekbahpobhjobaaDoor
