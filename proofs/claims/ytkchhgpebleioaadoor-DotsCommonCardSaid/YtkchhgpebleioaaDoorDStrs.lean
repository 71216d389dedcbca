/-
  Lists of strings in memory: slices of one's own and read ones; the kit's SameTexts and OwnTexts. No condition.
-/
import Derived.Test.YtkchhgpebleioaaDoorICells
import Derived.Maps.AppendAt
import Derived.Laws.OwnMore
import Derived.Deep.AppendLies
import Derived.Laws.AppendOwnNone
import Derived.Deep.DeepCutAuto
import Derived.Deep.RegionHeld3
import Derived.Deep.QuietTactic
import Derived.BigQuiet
import Derived.Lib.ItoaMem
import Derived.Lib.Hide
import Derived.WalkSmall
namespace Go.Proofs.YtkchhgpebleioaaDoor
open Go.RowKit
theorem own_belowR {W W' : World} {base : Nat} {e : TypeId} {size n : Nat} {v : Value} {xs : List Value} (h : W.ownsRow base e size v n xs) (hb : Below W.heap.size W W') : W'.ownsRow base e size v n xs :=
  h.kept ⟨hb.os, hb.tape, hb.output, hb.size, fun k hk _ => hb.block k hk⟩ (Decidable.em _)
theorem below_grownR {n : Nat} {w W W' : World} {row : Option Nat} (hB : Below n w W) (hn : n ≤ W.heap.size) (hg : W.grownBy W' row) (hr : ∀ r, row = some r → n ≤ r) : Below n w W' :=
  hB.trans ⟨hg.os, hg.tape, hg.output, hg.size, fun k hk => hg.block k (Nat.lt_of_lt_of_le hk hn) (fun e => by have := hr k e.symm; omega)⟩
theorem own_slice {w : World} {base : Nat} {e : TypeId} {size n : Nat} {v : Value} {xs : List Value} (h : w.ownsRow base e size v n xs) : ∃ p c, v = .slice p n c := by
  rcases h.2 with ⟨rfl, rfl⟩ | ⟨g, cap, cur, rfl, _⟩
  · exact ⟨none, 0, rfl⟩
  · exact ⟨_, cap, rfl⟩
/-- A row of one's own as cells to read. -/
theorem cells_of_own {w : World} {base : Nat} {e : TypeId} {size n : Nat} {v : Value} {xs : List Value} (h : w.ownsRow base e size v n xs) (hl : xs.length = n * size) : ∃ p cap, v = .slice p n cap ∧ CellsIn w p (n * size) (fun j => xs.getD j (.int .i64 0)) := by
  by_cases hn : 0 < n
  · obtain ⟨g, cap, rfl, _, _⟩ := h.form hn
    refine ⟨_, cap, rfl, fun j hj => ⟨g, 0, rfl, (h.lt g rfl).2, ?_⟩⟩
    rw [Nat.zero_add, h.cellAt j hj]
    dsimp only
    rw [List.getD_eq_getElem?_getD, List.getElem?_eq_getElem (by omega : j < xs.length)]
    rfl
  · obtain rfl : n = 0 := by omega
    rcases h.2 with ⟨rfl, _⟩ | ⟨g, cap, cur, rfl, _⟩
    · exact ⟨none, 0, rfl, fun j hj => absurd hj (by simp)⟩
    · exact ⟨_, cap, rfl, fun j hj => absurd hj (by simp)⟩
/-- The slice holds the texts. -/
def StrsAt (w : World) (v : Value) (l : List (List UInt8)) : Prop := ∃ p cap, v = .slice p l.length cap ∧ CellsIn w p (l.length * 1) (strC fun j => l.getD j [])
theorem StrsAt.below {k : Nat} {w w' : World} {v : Value} {l : List (List UInt8)} (h : StrsAt w v l) (hb : Below k w w') (hk : w.heap.size ≤ k) : StrsAt w' v l := by
  obtain ⟨p, cap, h1, h2⟩ := h
  exact ⟨p, cap, h1, h2.below hb hk⟩
theorem StrsAt.nil (w : World) : StrsAt w (.slice none 0 0) [] := ⟨none, 0, rfl, fun j hj => absurd hj (by simp)⟩
def strW (l : List UInt8) : Value := .string ⟨l.toArray⟩
theorem strs_of_own {w : World} {base : Nat} {e : TypeId} {v : Value} {l : List (List UInt8)} (h : w.ownsRow base e 1 v l.length (l.map strW)) : StrsAt w v l := by
  obtain ⟨p, cap, h1, h2⟩ := cells_of_own h (by simp)
  refine ⟨p, cap, h1, fun j hj => ?_⟩
  obtain ⟨b, off, e1, e2, e3⟩ := h2 j hj
  refine ⟨b, off, e1, e2, ?_⟩
  rw [e3]
  have hj' : j < l.length := by omega
  show some ((l.map strW).getD j (.int .i64 0)) = some (.string ⟨(l.getD j []).toArray⟩)
  rw [List.getD_eq_getElem?_getD, List.getD_eq_getElem?_getD, List.getElem?_map, List.getElem?_eq_getElem hj']
  rfl
/-- Text k of the list. -/
theorem str_cell {w w' : World} {p : Option Addr} {l : List (List UInt8)} (h : CellsIn w p (l.length * 1) (strC fun j => l.getD j [])) (hb : Below w.heap.size w w') {k : Nat} (hk : k < l.length) : ∃ b off, p = some ⟨b, off, none⟩ ∧ b < w.heap.size ∧ w'.cell? ⟨b, off + k, none⟩ = some (.string ⟨(l[k]).toArray⟩) := by
  obtain ⟨b, off, e, h1, h2⟩ := h k (by omega)
  refine ⟨b, off, e, h1, ?_⟩
  rw [hb.cell (p := ⟨b, off + k, none⟩) h1, h2]
  unfold strC
  dsimp only
  rw [List.getD_eq_getElem?_getD, List.getElem?_eq_getElem hk]
  rfl
theorem infoS4 : (Tryd.prog.info? 9).map (fun i => (i.zero, i.size, i.bytes)) = some (some (.string ⟨#[]⟩), 1, 16) := by kernel_rfl
set_option maxRecDepth 100000 in
set_option maxHeartbeats 4000000 in
theorem sameTexts_any (l : List (List UInt8)) (hn : l.length < 1000000) (v1 v2 : Value) (w : World) (h1 : StrsAt w v1 l) (h2 : StrsAt w v2 l) :
    Calls Tryd.prog 14 #[v1, v2] w fun e w' => e = .returned (.bool true) ∧ Below w.heap.size w w' := by
  obtain ⟨p1, c1, rfl, k1⟩ := h1
  obtain ⟨p2, c2, rfl, k2⟩ := h2
  have H1 : Hid (CellsIn w p1 (l.length * 1) (strC fun j => l.getD j [])) := k1
  have H2 : Hid (CellsIn w p2 (l.length * 1) (strC fun j => l.getD j [])) := k2
  clear k1 k2
  go_enter Tryd.func14, Tryd.ntmps14
  go_wp2_with fail
  go_loopw [5] (fun i wr => ∃ k : Nat, k ≤ l.length ∧ i = .int .i64 k ∧ Below w.heap.size w wr) (fun i _ => l.length - (intOf i).toNat)
  case atStart => exact ⟨0, Nat.zero_le _, rfl, Below.refl _ _⟩
  case round =>
  obtain ⟨k, hk, rfl, hB⟩ := hrel
  by_cases hlt : k < l.length
  · have d1 : decide ((k : Int) < (l.length : Int)) = true := decide_eq_true (by omega)
    have hb2 : (k : Int) < (l.length : Int) := by omega
    obtain ⟨b1, o1, rfl, l1, x0⟩ := H1.out k (by omega)
    obtain ⟨b2, o2, rfl, l2, y0⟩ := H2.out k (by omega)
    have x0 := (hB.cell (p := ⟨b1, o1 + k, none⟩) l1).trans x0
    have y0 := (hB.cell (p := ⟨b2, o2 + k, none⟩) l2).trans y0
    unfold strC at x0 y0
    dsimp only at x0 y0
    obtain ⟨t, ht⟩ : ∃ t, l.getD k [] = t := ⟨_, rfl⟩
    rw [ht] at x0 y0
    clear ht
    go_wp2_with fail
    go_region
    all_goals
      go_wp2_with fail
      go_roundw
      case rel => exact ⟨k + 1, by omega, by go_num, hB.drew⟩
      case measure => simp [intOf]; omega
  · have d1 : decide ((k : Int) < (l.length : Int)) = false := decide_eq_false (by omega)
    go_wp2_with fail
    go_ret
    exact ⟨rfl, hB⟩
theorem below_one {w wx : World} (o : Obj) (h : Below w.heap.size w wx) : Below w.heap.size w (wx.alloc o) := h.alloc h.size o
theorem strs_lit (W : World) (t : TypeId) (l : List (List UInt8)) : StrsAt (W.alloc (.cells (l.map strW).toArray t)) (.slice (some ⟨W.heap.size, 0, none⟩) l.length l.length) l :=
  ⟨_, _, rfl, fun j hj => by
    have hj' : j < l.length := by omega
    refine ⟨W.heap.size, 0, rfl, by simp, ?_⟩
    rw [Nat.zero_add, World.cell?_alloc_new]
    unfold strC
    dsimp only
    rw [List.getD_eq_getElem?_getD, List.getElem?_eq_getElem hj']
    simp [strW, hj']⟩
theorem news_of {w W : World} {p : Addr} {L : List (List UInt8)} (h : CellsIn w (some p) (L.length * 1) (strC fun j => L.getD j [])) (hb : Below w.heap.size w W) (j : Nat) (u : Value) (hu : (L.map strW)[j]? = some u) : W.cell? (p.add j) = some u := by
  have hj : j < L.length := by simpa using (List.getElem?_eq_some_iff.1 hu).1
  obtain ⟨b, off, e, hbl, hc⟩ := str_cell h hb hj
  injection e with e
  subst e
  rw [Lib.add_plain, hc, ← hu, List.getElem?_map, List.getElem?_eq_getElem hj]
  rfl
set_option maxRecDepth 100000 in
set_option maxHeartbeats 2000000 in
theorem ownTexts_any (L : List (List UInt8)) (hn : L.length < 100000) (p : Option Addr) (c : Nat) (hp : p = none → c = 0) (w : World) (hC : CellsIn w p (L.length * 1) (strC fun j => L.getD j [])) :
    Calls Tryd.prog 33 #[.slice p L.length c] w fun e w' => ∃ u, e = .returned u ∧ StrsAt w' u L ∧ Below w.heap.size w w' := by
  obtain ⟨i0, hi, hz0, hz1, hz2⟩ := info_parts infoS4
  have hlit := World.ownsRow_lit (base := w.heap.size) (e := 9) (size := 1) w #[] 0 (Nat.le_refl _) (by decide) rfl
  have hB1 : Below w.heap.size w (w.alloc (.cells #[] 9)) := (Below.refl _ _).alloc (Nat.le_refl _) _
  cases p with
  | none =>
    obtain rfl := hp rfl
    have hL : L = [] := by
      cases L with
      | nil => rfl
      | cons x r =>
        obtain ⟨b, off, e, _⟩ := hC 0 (by simp)
        cases e
    subst hL
    clear hC
    go_enter Tryd.func33, Tryd.ntmps33
    go_wp2_with (at_builtin; refine wpList_append_own_none rfl _ _ 26 rfl _ 9 i0 1 Tryd.underlying26 hi _ _ _ rfl hlit rfl ?_)
    go_ret
    exact ⟨_, rfl, strs_of_own (l := []) hlit, hB1⟩
  | some ad =>
    have hnews := news_of hC hB1
    have hone : ∀ u ∈ L.map strW, u.oneCell' = true := fun u hu => by
      obtain ⟨x, _, rfl⟩ := List.mem_map.1 hu
      rfl
    clear hC
    go_enter Tryd.func33, Tryd.ntmps33
    go_wp2_with (at_builtin; refine wpList_append_own _ rfl _ _ 26 rfl w.heap.size 9 i0 (.string ⟨#[]⟩) 1 16 Tryd.underlying26 hi hz0 hz1 hz2 rfl (by decide) _ _ _ rfl hlit ad L.length c (L.map strW) rfl (by simp) hnews hone (by unfold maxLen; omega) (by omega) hB1.size ?_; intro v' w1 hown' hgrow _)
    go_ret
    rw [Nat.zero_add] at hown'
    have hs := strs_of_own (l := L) hown'
    refine ⟨_, rfl, hs, below_grownR hB1 hB1.size hgrow (fun r hr => (hlit.lt r hr).1)⟩
end Go.Proofs.YtkchhgpebleioaaDoor
