/-
  The law text's own functions: same for equal lists, own, awake.
-/
import Derived.Test.YtbbphchhdppipaaDoorUProg11
namespace Go.Proofs.YtbbphchhdppipaaDoor
open Go.RowKit
set_option maxRecDepth 100000 in
set_option maxHeartbeats 4000000 in
theorem same_any (L : List Pr) (hn : L.length < 1000000) (v1 v2 : Value) (w : World) (h1 : PrsAt w v1 L) (h2 : PrsAt w v2 L) :
    Calls Tryd.prog 21 #[v1, v2] w fun e w' => e = .returned (.bool true) ∧ Below w.heap.size w w' := by
  obtain ⟨p1, c1, rfl, -, k1⟩ := h1
  obtain ⟨p2, c2, rfl, -, k2⟩ := h2
  have H1 : Hid (PrsIn w p1 L) := k1
  have H2 : Hid (PrsIn w p2 L) := k2
  clear k1 k2
  go_enter Tryd.func21, Tryd.ntmps21
  go_wp2_with fail
  go_loopw [5] (fun i wr => ∃ k : Nat, k ≤ L.length ∧ i = .int .i64 k ∧ Below w.heap.size w wr) (fun i _ => L.length - (intOf i).toNat)
  case atStart => exact ⟨0, Nat.zero_le _, rfl, Below.refl _ _⟩
  case round =>
  obtain ⟨k, hk, rfl, hB⟩ := hrel
  by_cases hlt : k < L.length
  · have d1 : decide ((k : Int) < (L.length : Int)) = true := decide_eq_true (by omega)
    have hb2 : (k : Int) < (L.length : Int) := by omega
    obtain ⟨b1, o1, rfl, l1, x0, x1, x2⟩ := pr_cells H1.out hB hlt
    obtain ⟨b2, o2, rfl, l2, y0, y1, y2⟩ := pr_cells H2.out hB hlt
    obtain ⟨P, hP⟩ : ∃ P, L[k] = P := ⟨_, rfl⟩
    rw [hP] at x0 x1 x2 y0 y1 y2
    clear hP
    obtain ⟨nm, vl, br⟩ := P
    dsimp only at x0 x1 x2 y0 y1 y2
    go_wp2_with fail
    go_region
    all_goals
      go_wp2_with fail
      go_roundw
      case rel => exact ⟨k + 1, by omega, by go_num, hB.drew⟩
      case measure => simp [intOf]; omega
  · have d1 : decide ((k : Int) < (L.length : Int)) = false := decide_eq_false (by omega)
    go_wp2_with fail
    go_ret
    exact ⟨rfl, hB⟩
set_option maxRecDepth 100000 in
set_option maxHeartbeats 2000000 in
theorem own_any (L : List Pr) (hn : L.length < 100000) (p : Option Addr) (c : Nat) (hp : p = none → c = 0) (w : World) (hC : PrsIn w p L) :
    Calls Tryd.prog 28 #[.slice p L.length c] w fun e w' => ∃ u, e = .returned u ∧ w'.ownsRow w.heap.size 40 3 u L.length (prsC L) ∧ Below w.heap.size w w' := by
  obtain ⟨i0, hi, hz0, hz1, hz2⟩ := info_parts infoPr
  have hlit := World.ownsRow_lit (base := w.heap.size) (e := 40) (size := 3) w #[] 0 (Nat.le_refl _) (by decide) rfl
  have hB1 : Below w.heap.size w (w.alloc (.cells #[] 40)) := (Below.refl _ _).alloc (Nat.le_refl _) _
  cases p with
  | none =>
    obtain rfl := hp rfl
    have hL : L = [] := by
      cases L with
      | nil => rfl
      | cons x r =>
        obtain ⟨b, off, e, _⟩ := hC 0 (by simp)
        cases e
    subst hL
    clear hC
    go_enter Tryd.func28, Tryd.ntmps28
    go_wp2_with (at_builtin; refine wpList_append_own_none rfl _ _ 31 rfl _ 40 i0 3 Tryd.underlying31 hi _ _ _ rfl hlit rfl ?_)
    go_ret
    exact ⟨_, rfl, hlit, hB1⟩
  | some ad =>
    have hnews := pnews_of hC hB1
    have hone := prsC_one L
    have hlen := prsC_length L
    have z1 : (Value.agg #[.string ⟨#[]⟩, .string ⟨#[]⟩, .bool false]).cells.size = 3 := by rfl
    clear hC
    go_enter Tryd.func28, Tryd.ntmps28
    go_wp2_with (at_builtin; refine wpList_append_own _ rfl _ _ 31 rfl w.heap.size 40 i0 (.agg #[.string ⟨#[]⟩, .string ⟨#[]⟩, .bool false]) 3 40 Tryd.underlying31 hi hz0 hz1 hz2 z1 (by decide) _ _ _ rfl hlit ad L.length c (prsC L) rfl hlen hnews hone (by unfold maxLen; omega) (by omega) hB1.size ?_; intro v' w1 hown' hgrow _)
    go_ret
    rw [Nat.zero_add] at hown'
    exact ⟨_, rfl, hown', below_grownR hB1 hB1.size hgrow (fun r hr => (hlit.lt r hr).1)⟩
theorem prs_lit (W : World) (t : TypeId) (L : List Pr) : PrsAt (W.alloc (.cells (prsC L).toArray t)) (.slice (some ⟨W.heap.size, 0, none⟩) L.length L.length) L :=
  ⟨_, _, rfl, (fun h => by cases h), fun j hj => by
    refine ⟨W.heap.size, 0, rfl, by simp, ?_⟩
    rw [Nat.zero_add, World.cell?_alloc_new]
    have hj' : j < (prsC L).length := by rw [prsC_length]; exact hj
    dsimp only
    rw [List.getD_eq_getElem?_getD, List.getElem?_toArray, List.getElem?_eq_getElem hj']
    rfl⟩
def exQ : List UInt8 := [97, 61, 49, 38, 38, 98, 38, 61, 50, 38, 99, 61, 100, 61, 101]
def exL : List Pr := [⟨[97], [49], false⟩, ⟨[98], [], true⟩, ⟨[], [50], false⟩, ⟨[99], [100, 61, 101], false⟩]
theorem ex_pairs : prsR exQ = .inr exL := by decide +kernel
theorem ex_code : codeL [97, 32, 98, 38, 99, 61, 37, 47, 195, 169] = [97, 37, 50, 48, 98, 37, 50, 54, 99, 37, 51, 68, 37, 50, 53, 47, 37, 67, 51, 37, 65, 57] := by decide +kernel
set_option maxRecDepth 100000 in
set_option maxHeartbeats 4000000 in
theorem awake_any (w : World) :
    Calls Tryd.prog 10 #[] w fun e w' => e = .returned (.bool true) ∧ Below w.heap.size w w' := by
  have HP : Hid (∀ W, Calls Tryd.prog 19 #[.string ⟨#[97, 61, 49, 38, 38, 98, 38, 61, 50, 38, 99, 61, 100, 61, 101]⟩] W fun e w' => PrsPost W.heap.size (.inr exL) e w' ∧ Below W.heap.size W w') := Lib.hid fun W => by
    have h := pairs_any exQ (by decide) W
    rw [ex_pairs] at h
    exact h
  have HE : Hid (∀ W, Calls Tryd.prog 13 #[.string ⟨#[97, 32, 98, 38, 99, 61, 37, 47, 195, 169]⟩] W fun e w' => e = .returned (.string ⟨#[97, 37, 50, 48, 98, 37, 50, 54, 99, 37, 51, 68, 37, 50, 53, 47, 37, 67, 51, 37, 65, 57]⟩) ∧ Below W.heap.size W w') := Lib.hid fun W => by
    have h := code_any [97, 32, 98, 38, 99, 61, 37, 47, 195, 169] (by decide) W
    rw [ex_code] at h
    exact h
  have HS : Hid (∀ (W : World) (p : Option Addr) (c : Nat) (v2 : Value), PrsAt W (.slice p 4 c) exL → PrsAt W v2 exL → Calls Tryd.prog 21 #[.slice p 4 c, v2] W fun e w' => e = .returned (.bool true) ∧ Below W.heap.size W w') := Lib.hid fun W p c v2 h1 h2 => same_any exL (by decide) _ v2 W h1 h2
  go_enter Tryd.func10, Tryd.ntmps10
  go_wp2_with fail
  refine (HP.out _).mono ?_
  rintro e w1 ⟨⟨v, rfl, hrow⟩, hb1⟩
  have hpr := prs_of_own hrow
  obtain ⟨p, c, rfl⟩ : ∃ p c, v = .slice p 4 c := own_slice hrow
  clear hrow
  go_wp2_with fail
  refine (HE.out _).mono ?_
  rintro e w2 ⟨rfl, hb2⟩
  have hB2 := hb1.trans (hb2.mono hb1.size)
  have hB3 := hB2.alloc hB2.size (.cells (prsC exL).toArray 40)
  have h1 := hpr.below (hb2.alloc hb2.size (.cells (prsC exL).toArray 40)) (Nat.le_refl _)
  have h2 := prs_lit w2 40 exL
  go_wp2_with fail
  refine (HS.out _ _ _ _ h1 h2).mono ?_
  rintro e w3 ⟨rfl, hb3⟩
  go_wp2_with fail
  go_ret
  exact ⟨rfl, hB3.trans (hb3.mono hB3.size)⟩
end Go.Proofs.YtbbphchhdppipaaDoor
