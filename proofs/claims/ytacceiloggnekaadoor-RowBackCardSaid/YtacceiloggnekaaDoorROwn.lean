/-
  The law text's own: rows in new memory.
-/
import Derived.Test.YtacceiloggnekaaDoorRAt
import Derived.Test.YtacceiloggnekaaDoorRNum
import Derived.Test.YtacceiloggnekaaDoorRRows
import Derived.Deep.RegionHeld3
import Derived.Deep.QuietTactic
import Derived.Deep.RegionLaw
import Derived.BigQuiet
import Derived.Lib.ItoaMem
namespace Go.Proofs.YtacceiloggnekaaDoor
open Go.RowKit
theorem own_empty (w : World) (base : Nat) (e : TypeId) (size : Nat) (h : base ≤ w.heap.size) : (w.alloc (.cells #[] e)).ownsRow base e size (.slice (some ⟨w.heap.size, 0, none⟩) 0 0) 0 [] :=
  ⟨by simp, .inr ⟨w.heap.size, 0, #[], rfl, h, heap_alloc_new w _, Nat.le_refl _, by unfold maxLen; omega, by simp, by simp⟩⟩
theorem wdsC_one1 : ∀ (ws : List Wd), ∀ u ∈ wdsC ws, u.oneCell' = true
  | [], u, h => by simp [wdsC] at h
  | x :: ws, u, h => by
    rw [wdsC_cons, List.mem_append] at h
    rcases h with h | h
    · simp only [wdC, List.mem_cons, List.not_mem_nil, or_false] at h
      rcases h with rfl | rfl | rfl <;> rfl
    · exact wdsC_one1 ws u h
set_option maxRecDepth 100000 in
set_option maxHeartbeats 8000000 in
theorem own_any (rs : List Rw) (hn : rs.length < 100000) (hw : ∀ r ∈ rs, r.words.length < 100000) (v : Value) (w : World) (h : RowsAt w v rs) :
    Calls Tryd.prog 15 #[v] w fun e w' => ∃ v', e = .returned v' ∧ RowsAt w' v' rs ∧ Below w.heap.size w w' := by
  obtain ⟨i0, hi, hz0, hz1, hz2⟩ := info_parts infoW
  obtain ⟨i1, hr, hy0, hy1, hy2⟩ := info_parts infoR
  obtain ⟨p, c, cs, rfl, k1, j1⟩ := h
  have H1 : Hid (RowCs w cs rs) := k1
  have J1 : Hid (CellsIn w p (rs.length * 2) (fun j => cs.getD j (.int .i64 0))) := j1
  have HW := Lib.hid hw
  clear k1 j1 hw
  go_enter Tryd.func15, Tryd.ntmps15
  go_wp2_with fail
  go_loopw [3, 4] (fun o i wr => ∃ (k : Nat) (xs : List Value) (q : Option Addr) (d : Nat), k ≤ rs.length ∧ i = .int .i64 k ∧ o = .slice q k d ∧ RowCsO wr w.heap.size xs (rs.take k) ∧ wr.ownsRow w.heap.size 45 2 (.slice q k d) k xs ∧ Below w.heap.size w wr) (fun _ i _ => rs.length - (intOf i).toNat)
  case atStart => exact ⟨0, [], none, 0, Nat.zero_le _, rfl, rfl, trivial, World.ownsRow_nil _ _ _ _, Below.refl _ _⟩
  case round =>
  obtain ⟨k, xs, q, d, hk, rfl, rfl, hxs, hrow, hB⟩ := hrel
  by_cases hlt : k < rs.length
  · have d1 : decide ((k : Int) < (rs.length : Int)) = true := decide_eq_true (by omega)
    have hb2 : (k : Int) < (rs.length : Int) := by omega
    have hwl := HW.out _ (List.getElem_mem hlt)
    have htake := List.take_succ_eq_append_getElem hlt
    obtain ⟨b1, o1, wp, wc, rfl, l1, x0, x1, x2⟩ := row_cells H1.out J1.out (Below.refl _ w) hlt
    obtain ⟨r, hrr⟩ : ∃ r, rs[k] = r := ⟨_, rfl⟩
    rw [hrr] at x0 x1 x2 hwl htake
    obtain ⟨a, ha⟩ : ∃ a, r.pos = a := ⟨_, rfl⟩
    obtain ⟨ws, hws⟩ : ∃ ws, r.words = ws := ⟨_, rfl⟩
    rw [ha] at x0
    rw [hws] at x1 x2 hwl
    have K4 : Hid (∀ wx, Below w.heap.size w wx → (fun wx => Below w.heap.size w wx ∧ wx.cell? ⟨b1, o1 + k * 2, none⟩ = some (.int .i64 a) ∧ wx.cell? ⟨b1, o1 + k * 2 + 1, none⟩ = some (.slice wp ws.length wc)) wx) := Lib.hid (fun wx hx => ⟨hx, (hx.cell (p := ⟨b1, o1 + k * 2, none⟩) l1).trans x0, (hx.cell (p := ⟨b1, o1 + k * 2 + 1, none⟩) l1).trans x1⟩)
    have HX2 := Lib.hid x2
    have HT := Lib.hid htake
    have HAW : Hid (r.pos = a ∧ r.words = ws) := Lib.hid ⟨ha, hws⟩
    have hsz := hB.size
    have hlast : ∀ g, (Value.slice q k d).ownBlock = some g → g ≠ wr.heap.size := fun g hg => by have := (hrow.lt g hg).2; omega
    clear x0 x1 x2 htake hrr ha hws
    go_upto_region 5 with fail
    by_cases hw0 : ws.length = 0
    · obtain rfl : ws = [] := List.eq_nil_of_length_eq_zero hw0
      clear hw0
      rcases wp with _ | adr
      · clear hwl
        refine wp_region_noPanic ?_
        refine wp_region_held_drew (S := fun wx => Below w.heap.size w wx ∧ wx.cell? ⟨b1, o1 + k * 2, none⟩ = some (.int .i64 a) ∧ wx.cell? ⟨b1, o1 + k * 2 + 1, none⟩ = some (.slice none ([] : List Wd).length wc)) (by kernel_rfl) ?_ (fun hHeld => ?_)
        focus ((try dsimp only); (go_split_ands; refine K4.out _ ?_; repeat' (first | (with_reducible assumption) | (with_reducible exact Below.refl _ _) | (with_reducible refine Below.drew ?_) | (refine Below.alloc ?_ (by first | (have := hB.size; simp; omega) | (have := hB1.size; simp; omega)) _))))
        try simp only [Act.put, List.setIfInBounds_toArray, List.set_cons_zero, List.set_cons_succ]
        refine wpAnyH_take (i := 0) (oi := { dst := some 11, op := Go.Op.move (Go.Operand.tmp 3), type := 23, pos := "law.go:53", after := #[], guard := none }) (v := ?_) rfl (by kernel_rfl) (by kernel_rfl) (by kernel_rfl) (fun _ _ _ h => h) (Or.inl ⟨by rfl, ?_⟩) (by assumption) ?_
        rotate_left
        focus ((intro w hSw; (try dsimp only at hSw); go_simp) <;> (with_reducible rfl))
        try simp only [Act.put, List.setIfInBounds_toArray, List.set_cons_zero, List.set_cons_succ]
        refine wpAnyH_take (i := 1) (oi := { dst := some 12, op := Go.Op.move (Go.Operand.tmp 0), type := 23, pos := "law.go:53", after := #[], guard := none }) (v := ?_) rfl (by kernel_rfl) (by kernel_rfl) (by kernel_rfl) (fun _ _ _ h => h) (Or.inl ⟨by rfl, ?_⟩) (by assumption) ?_
        rotate_left
        focus ((intro w hSw; (try dsimp only at hSw); go_simp) <;> (with_reducible rfl))
        try simp only [Act.put, List.setIfInBounds_toArray, List.set_cons_zero, List.set_cons_succ]
        refine wpAnyH_take (i := 2) (oi := { dst := some 13, op := Go.Op.move (Go.Operand.tmp 4), type := 3, pos := "law.go:53", after := #[], guard := none }) (v := ?_) rfl (by kernel_rfl) (by kernel_rfl) (by kernel_rfl) (fun _ _ _ h => h) (Or.inl ⟨by rfl, ?_⟩) (by assumption) ?_
        rotate_left
        focus ((intro w hSw; (try dsimp only at hSw); go_simp) <;> (with_reducible rfl))
        try simp only [Act.put, List.setIfInBounds_toArray, List.set_cons_zero, List.set_cons_succ]
        refine wpAnyH_take (i := 3) (oi := { dst := some 14, op := Go.Op.indexAddr 23 (Go.Operand.tmp 12) (Go.Operand.tmp 13), type := 0, pos := "law.go:53", after := #[{ on := 1, ground := Go.Ground.data }, { on := 2, ground := Go.Ground.data }], guard := none }) (v := ?_) rfl (by kernel_rfl) (by kernel_rfl) (by kernel_rfl) (fun _ _ _ h => h) (Or.inl ⟨by rfl, ?_⟩) (by assumption) ?_
        rotate_left
        focus ((intro w hSw; (try dsimp only at hSw); go_simp) <;> (with_reducible rfl))
        try simp only [Act.put, List.setIfInBounds_toArray, List.set_cons_zero, List.set_cons_succ]
        refine wpAnyH_take (i := 4) (oi := { dst := some 15, op := Go.Op.fieldAddr 45 (Go.Operand.tmp 14) 0, type := 0, pos := "law.go:53", after := #[{ on := 3, ground := Go.Ground.data }], guard := none }) (v := ?_) rfl (by kernel_rfl) (by kernel_rfl) (by kernel_rfl) (fun _ _ _ h => h) (Or.inl ⟨by rfl, ?_⟩) (by assumption) ?_
        rotate_left
        focus ((intro w hSw; (try dsimp only at hSw); go_simp) <;> (with_reducible rfl))
        try simp only [Act.put, List.setIfInBounds_toArray, List.set_cons_zero, List.set_cons_succ]
        refine wpAnyH_take (i := 5) (oi := { dst := some 16, op := Go.Op.load 3 (Go.Operand.tmp 15), type := 3, pos := "law.go:53", after := #[{ on := 4, ground := Go.Ground.data }], guard := none }) (v := ?_) rfl (by kernel_rfl) (by kernel_rfl) (by kernel_rfl) (fun _ _ _ h => h) (Or.inl ⟨by rfl, ?_⟩) (by assumption) ?_
        rotate_left
        focus ((intro w hSw; (try dsimp only at hSw); go_simp) <;> (with_reducible rfl))
        try simp only [Act.put, List.setIfInBounds_toArray, List.set_cons_zero, List.set_cons_succ]
        refine wpAnyH_take (i := 7) (oi := { dst := some 18, op := Go.Op.move (Go.Operand.tmp 0), type := 23, pos := "law.go:53", after := #[], guard := none }) (v := ?_) rfl (by kernel_rfl) (by kernel_rfl) (by kernel_rfl) (fun _ _ _ h => h) (Or.inl ⟨by rfl, ?_⟩) (by assumption) ?_
        rotate_left
        focus ((intro w hSw; (try dsimp only at hSw); go_simp) <;> (with_reducible rfl))
        try simp only [Act.put, List.setIfInBounds_toArray, List.set_cons_zero, List.set_cons_succ]
        refine wpAnyH_take (i := 8) (oi := { dst := some 19, op := Go.Op.move (Go.Operand.tmp 4), type := 3, pos := "law.go:53", after := #[], guard := none }) (v := ?_) rfl (by kernel_rfl) (by kernel_rfl) (by kernel_rfl) (fun _ _ _ h => h) (Or.inl ⟨by rfl, ?_⟩) (by assumption) ?_
        rotate_left
        focus ((intro w hSw; (try dsimp only at hSw); go_simp) <;> (with_reducible rfl))
        try simp only [Act.put, List.setIfInBounds_toArray, List.set_cons_zero, List.set_cons_succ]
        refine wpAnyH_take (i := 9) (oi := { dst := some 20, op := Go.Op.indexAddr 23 (Go.Operand.tmp 18) (Go.Operand.tmp 19), type := 0, pos := "law.go:53", after := #[{ on := 7, ground := Go.Ground.data }, { on := 8, ground := Go.Ground.data }], guard := none }) (v := ?_) rfl (by kernel_rfl) (by kernel_rfl) (by kernel_rfl) (fun _ _ _ h => h) (Or.inl ⟨by rfl, ?_⟩) (by assumption) ?_
        rotate_left
        focus ((intro w hSw; (try dsimp only at hSw); go_simp) <;> (with_reducible rfl))
        try simp only [Act.put, List.setIfInBounds_toArray, List.set_cons_zero, List.set_cons_succ]
        refine wpAnyH_take (i := 10) (oi := { dst := some 21, op := Go.Op.fieldAddr 45 (Go.Operand.tmp 20) 1, type := 0, pos := "law.go:53", after := #[{ on := 9, ground := Go.Ground.data }], guard := none }) (v := ?_) rfl (by kernel_rfl) (by kernel_rfl) (by kernel_rfl) (fun _ _ _ h => h) (Or.inl ⟨by rfl, ?_⟩) (by assumption) ?_
        rotate_left
        focus ((intro w hSw; (try dsimp only at hSw); go_simp) <;> (with_reducible rfl))
        try simp only [Act.put, List.setIfInBounds_toArray, List.set_cons_zero, List.set_cons_succ]
        refine wpAnyH_take (i := 11) (oi := { dst := some 22, op := Go.Op.load 43 (Go.Operand.tmp 21), type := 43, pos := "law.go:53", after := #[{ on := 10, ground := Go.Ground.data }], guard := none }) (v := ?_) rfl (by kernel_rfl) (by kernel_rfl) (by kernel_rfl) (fun _ _ _ h => h) (Or.inl ⟨by rfl, ?_⟩) (by assumption) ?_
        rotate_left
        focus ((intro w hSw; (try dsimp only at hSw); go_simp) <;> (with_reducible rfl))
        try simp only [Act.put, List.setIfInBounds_toArray, List.set_cons_zero, List.set_cons_succ]
        refine wpAnyH_ready (rs := [6]) (by kernel_rfl) (by simp) ?_
        refine AllReadyH.cons (o := { dst := some 17, op := Go.Op.buildSlice 43 0 #[], type := 43, pos := "law.go:53", after := #[], guard := none }) rfl (fun K hK => ?_) AllReadyH.nil
        go_simp
        refine hK.out _ _ ?_ (fun hNew => ?_)
        focus ((try dsimp only); (go_split_ands; refine K4.out _ ?_; repeat' (first | (with_reducible assumption) | (with_reducible exact Below.refl _ _) | (with_reducible refine Below.drew ?_) | (refine Below.alloc ?_ (by first | (have := hB.size; simp; omega) | (have := hB1.size; simp; omega)) _))))
        clear hK K hHeld
        have hHeld := hNew
        clear hNew
        try simp only [Act.put, List.setIfInBounds_toArray, List.set_cons_zero, List.set_cons_succ]
        refine wpAnyH_ready (rs := [12]) (by kernel_rfl) (by simp) ?_
        refine AllReadyH.cons (o := { dst := some 23, op := Go.Op.call { callee := Go.Callee.builtin Go.Builtin.append, args := #[Go.Operand.tmp 17, Go.Operand.tmp 22], argTypes := #[43, 43] }, type := 43, pos := "law.go:53", after := #[{ on := 6, ground := Go.Ground.data }, { on := 11, ground := Go.Ground.data }], guard := none }) rfl (fun K hK => ?_) AllReadyH.nil
        go_simp
        refine hK.out _ _ ?_ (fun hNew => ?_)
        focus ((try dsimp only); (go_split_ands; refine K4.out _ ?_; repeat' (first | (with_reducible assumption) | (with_reducible exact Below.refl _ _) | (with_reducible refine Below.drew ?_) | (refine Below.alloc ?_ (by first | (have := hB.size; simp; omega) | (have := hB1.size; simp; omega)) _))))
        clear hK K hHeld
        have hHeld := hNew
        clear hNew
        try simp only [Act.put, List.setIfInBounds_toArray, List.set_cons_zero, List.set_cons_succ]
        refine wpAnyH_take (i := 13) (oi := { dst := some 24, op := Go.Op.build 45 #[(0, Go.Operand.tmp 16), (1, Go.Operand.tmp 23)], type := 45, pos := "law.go:53", after := #[{ on := 5, ground := Go.Ground.data }, { on := 12, ground := Go.Ground.data }], guard := none }) (v := ?_) rfl (by kernel_rfl) (by kernel_rfl) (by kernel_rfl) (fun _ _ _ h => h) (Or.inl ⟨by rfl, ?_⟩) (by assumption) ?_
        rotate_left
        focus ((intro w hSw; (try dsimp only at hSw); go_simp) <;> (with_reducible rfl))
        try simp only [Act.put, List.setIfInBounds_toArray, List.set_cons_zero, List.set_cons_succ]
        refine wpAnyH_ready (rs := [14]) (by kernel_rfl) (by simp) ?_
        refine AllReadyH.cons (o := { dst := some 25, op := Go.Op.buildSlice 23 1 #[(0, Go.Operand.tmp 24)], type := 23, pos := "law.go:53", after := #[{ on := 13, ground := Go.Ground.data }], guard := none }) rfl (fun K hK => ?_) AllReadyH.nil
        go_simp
        refine hK.out _ _ ?_ (fun hNew => ?_)
        focus ((try dsimp only); (go_split_ands; refine K4.out _ ?_; repeat' (first | (with_reducible assumption) | (with_reducible exact Below.refl _ _) | (with_reducible refine Below.drew ?_) | (refine Below.alloc ?_ (by first | (have := hB.size; simp; omega) | (have := hB1.size; simp; omega)) _))))
        clear hK K hHeld
        have hHeld := hNew
        clear hNew
        try simp only [Act.put, List.setIfInBounds_toArray, List.set_cons_zero, List.set_cons_succ]
        refine wpAnyH_ready (rs := [15]) (by kernel_rfl) (by simp) ?_
        refine AllReadyH.cons (o := { dst := some 26, op := Go.Op.call { callee := Go.Callee.builtin Go.Builtin.append, args := #[Go.Operand.tmp 11, Go.Operand.tmp 25], argTypes := #[23, 23] }, type := 23, pos := "law.go:53", after := #[{ on := 0, ground := Go.Ground.data }, { on := 14, ground := Go.Ground.data }, { on := 12, ground := Go.Ground.chain }], guard := none }) rfl (fun K hK => ?_) AllReadyH.nil
        (have z4 : w.heap.size ≤ (World.drew (World.alloc (World.alloc wr (.cells #[] 47)) (.cells #[.int .i64 a, .slice (some ⟨wr.heap.size, 0, none⟩) 0 0] 45))).heap.size := (by show _ ≤ (World.alloc (World.alloc wr (.cells #[] 47)) (.cells #[.int .i64 a, .slice (some ⟨wr.heap.size, 0, none⟩) 0 0] 45)).heap.size; simp; omega); have hrow2 := ((hrow.alloc (.cells #[] 47)).alloc (.cells #[.int .i64 a, .slice (some ⟨wr.heap.size, 0, none⟩) 0 0] 45)).drew; have hnews : ∀ (j : Nat) u, ([.int .i64 a, .slice (some ⟨wr.heap.size, 0, none⟩) 0 0] : List Value)[j]? = some u → (World.drew (World.alloc (World.alloc wr (.cells #[] 47)) (.cells #[.int .i64 a, .slice (some ⟨wr.heap.size, 0, none⟩) 0 0] 45))).cell? ((⟨wr.heap.size + 1, 0, none⟩ : Addr).add j) = some u := (by have := cell_news (World.alloc wr (.cells #[] 47)) 45 [.int .i64 a, .slice (some ⟨wr.heap.size, 0, none⟩) 0 0]; rw [World.size_alloc] at this; exact this); refine step_append_lies _ rfl _ _ 23 rfl w.heap.size 45 i1 (.agg #[.int .i64 0, .slice none 0 0]) 2 32 Tryd.underlying23 hr hy0 hy1 hy2 rfl (by decide) (.slice q k d) k xs rfl hrow2 ⟨wr.heap.size + 1, 0, none⟩ 1 1 [.int .i64 a, .slice (some ⟨wr.heap.size, 0, none⟩) 0 0] rfl rfl hnews (by simp [Value.oneCell']) (by decide) (by unfold maxLen; omega) (by omega) z4 _ rfl ?_; intro g3 cap3 w3 hown3 hgrow3 _ _; have hB3 : Below w.heap.size w w3 := below_grownR (((hB.alloc hsz (.cells #[] 47)).alloc (by simp; omega) (.cells #[.int .i64 a, .slice (some ⟨wr.heap.size, 0, none⟩) 0 0] 45)).drew) z4 hgrow3 (fun r hr => (hrow2.lt r hr).1); have hxs3 : RowCsO w3 w.heap.size xs (rs.take k) := RowCsO.grown (hxs.kept fun _ _ _ h1 => ((h1.alloc (.cells #[] 47)).alloc (.cells #[.int .i64 a, .slice (some ⟨wr.heap.size, 0, none⟩) 0 0] 45)).drew) hrow2 hgrow3 (by decide); have hv3 := World.ownsRow.kept (((own_empty wr w.heap.size 47 3 hsz).alloc (.cells #[.int .i64 a, .slice (some ⟨wr.heap.size, 0, none⟩) 0 0] 45)).drew) hgrow3 (own_apart (((own_empty wr w.heap.size 47 3 hsz).alloc (.cells #[.int .i64 a, .slice (some ⟨wr.heap.size, 0, none⟩) 0 0] 45)).drew) hrow2 (by decide)))
        refine hK.out _ _ ?_ (fun hNew => ?_)
        focus ((try dsimp only); (go_split_ands; refine K4.out _ ?_; repeat' (first | (with_reducible assumption) | (with_reducible exact Below.refl _ _) | (with_reducible refine Below.drew ?_) | (refine Below.alloc ?_ (by first | (have := hB.size; simp; omega) | (have := hB1.size; simp; omega)) _))))
        clear hK K hHeld
        have hHeld := hNew
        clear hNew
        try simp only [Act.put, List.setIfInBounds_toArray, List.set_cons_zero, List.set_cons_succ]
        refine wpAnyH_take (i := 16) (oi := { dst := some 3, op := Go.Op.assign (Go.Operand.tmp 26), type := 23, pos := "law.go:53", after := #[{ on := 15, ground := Go.Ground.data }, { on := 15, ground := Go.Ground.chain }, { on := 0, ground := Go.Ground.phase }, { on := 1, ground := Go.Ground.phase }, { on := 2, ground := Go.Ground.phase }, { on := 3, ground := Go.Ground.phase }, { on := 4, ground := Go.Ground.phase }, { on := 5, ground := Go.Ground.phase }, { on := 6, ground := Go.Ground.phase }, { on := 7, ground := Go.Ground.phase }, { on := 8, ground := Go.Ground.phase }, { on := 9, ground := Go.Ground.phase }, { on := 10, ground := Go.Ground.phase }, { on := 11, ground := Go.Ground.phase }, { on := 12, ground := Go.Ground.phase }, { on := 13, ground := Go.Ground.phase }, { on := 14, ground := Go.Ground.phase }, { on := 15, ground := Go.Ground.phase }], guard := none }) (v := ?_) rfl (by kernel_rfl) (by kernel_rfl) (by kernel_rfl) (fun _ _ _ h => h) (Or.inl ⟨by rfl, ?_⟩) (by assumption) ?_
        rotate_left
        focus ((intro w hSw; (try dsimp only at hSw); go_simp) <;> (with_reducible rfl))
        try simp only [Act.put, List.setIfInBounds_toArray, List.set_cons_zero, List.set_cons_succ]
        refine wpAnyH_done (by kernel_rfl) ?_ _
        refine NoPanic.normal ?_
        go_wp2_with fail
        go_roundw
        case rel =>
          refine ⟨k + 1, xs ++ [.int .i64 a, .slice (some ⟨wr.heap.size, 0, none⟩) 0 0], some ⟨g3, 0, none⟩, cap3, by omega, by go_num, rfl, ?_, hown3, hB3⟩
          obtain ⟨e1, e2⟩ := HAW.out
          have := RowCsO.snoc (r := r) (by rw [e2]; exact hv3) hxs3
          rw [e1] at this
          rw [HT.out]
          exact this
        case measure => simp [intOf]; omega
      · clear hwl
        refine wp_region_noPanic ?_
        refine wp_region_held_drew (S := fun wx => Below w.heap.size w wx ∧ wx.cell? ⟨b1, o1 + k * 2, none⟩ = some (.int .i64 a) ∧ wx.cell? ⟨b1, o1 + k * 2 + 1, none⟩ = some (.slice (some adr) ([] : List Wd).length wc)) (by kernel_rfl) ?_ (fun hHeld => ?_)
        focus ((try dsimp only); (go_split_ands; refine K4.out _ ?_; repeat' (first | (with_reducible assumption) | (with_reducible exact Below.refl _ _) | (with_reducible refine Below.drew ?_) | (refine Below.alloc ?_ (by first | (have := hB.size; simp; omega) | (have := hB1.size; simp; omega)) _))))
        try simp only [Act.put, List.setIfInBounds_toArray, List.set_cons_zero, List.set_cons_succ]
        refine wpAnyH_take (i := 0) (oi := { dst := some 11, op := Go.Op.move (Go.Operand.tmp 3), type := 23, pos := "law.go:53", after := #[], guard := none }) (v := ?_) rfl (by kernel_rfl) (by kernel_rfl) (by kernel_rfl) (fun _ _ _ h => h) (Or.inl ⟨by rfl, ?_⟩) (by assumption) ?_
        rotate_left
        focus ((intro w hSw; (try dsimp only at hSw); go_simp) <;> (with_reducible rfl))
        try simp only [Act.put, List.setIfInBounds_toArray, List.set_cons_zero, List.set_cons_succ]
        refine wpAnyH_take (i := 1) (oi := { dst := some 12, op := Go.Op.move (Go.Operand.tmp 0), type := 23, pos := "law.go:53", after := #[], guard := none }) (v := ?_) rfl (by kernel_rfl) (by kernel_rfl) (by kernel_rfl) (fun _ _ _ h => h) (Or.inl ⟨by rfl, ?_⟩) (by assumption) ?_
        rotate_left
        focus ((intro w hSw; (try dsimp only at hSw); go_simp) <;> (with_reducible rfl))
        try simp only [Act.put, List.setIfInBounds_toArray, List.set_cons_zero, List.set_cons_succ]
        refine wpAnyH_take (i := 2) (oi := { dst := some 13, op := Go.Op.move (Go.Operand.tmp 4), type := 3, pos := "law.go:53", after := #[], guard := none }) (v := ?_) rfl (by kernel_rfl) (by kernel_rfl) (by kernel_rfl) (fun _ _ _ h => h) (Or.inl ⟨by rfl, ?_⟩) (by assumption) ?_
        rotate_left
        focus ((intro w hSw; (try dsimp only at hSw); go_simp) <;> (with_reducible rfl))
        try simp only [Act.put, List.setIfInBounds_toArray, List.set_cons_zero, List.set_cons_succ]
        refine wpAnyH_take (i := 3) (oi := { dst := some 14, op := Go.Op.indexAddr 23 (Go.Operand.tmp 12) (Go.Operand.tmp 13), type := 0, pos := "law.go:53", after := #[{ on := 1, ground := Go.Ground.data }, { on := 2, ground := Go.Ground.data }], guard := none }) (v := ?_) rfl (by kernel_rfl) (by kernel_rfl) (by kernel_rfl) (fun _ _ _ h => h) (Or.inl ⟨by rfl, ?_⟩) (by assumption) ?_
        rotate_left
        focus ((intro w hSw; (try dsimp only at hSw); go_simp) <;> (with_reducible rfl))
        try simp only [Act.put, List.setIfInBounds_toArray, List.set_cons_zero, List.set_cons_succ]
        refine wpAnyH_take (i := 4) (oi := { dst := some 15, op := Go.Op.fieldAddr 45 (Go.Operand.tmp 14) 0, type := 0, pos := "law.go:53", after := #[{ on := 3, ground := Go.Ground.data }], guard := none }) (v := ?_) rfl (by kernel_rfl) (by kernel_rfl) (by kernel_rfl) (fun _ _ _ h => h) (Or.inl ⟨by rfl, ?_⟩) (by assumption) ?_
        rotate_left
        focus ((intro w hSw; (try dsimp only at hSw); go_simp) <;> (with_reducible rfl))
        try simp only [Act.put, List.setIfInBounds_toArray, List.set_cons_zero, List.set_cons_succ]
        refine wpAnyH_take (i := 5) (oi := { dst := some 16, op := Go.Op.load 3 (Go.Operand.tmp 15), type := 3, pos := "law.go:53", after := #[{ on := 4, ground := Go.Ground.data }], guard := none }) (v := ?_) rfl (by kernel_rfl) (by kernel_rfl) (by kernel_rfl) (fun _ _ _ h => h) (Or.inl ⟨by rfl, ?_⟩) (by assumption) ?_
        rotate_left
        focus ((intro w hSw; (try dsimp only at hSw); go_simp) <;> (with_reducible rfl))
        try simp only [Act.put, List.setIfInBounds_toArray, List.set_cons_zero, List.set_cons_succ]
        refine wpAnyH_take (i := 7) (oi := { dst := some 18, op := Go.Op.move (Go.Operand.tmp 0), type := 23, pos := "law.go:53", after := #[], guard := none }) (v := ?_) rfl (by kernel_rfl) (by kernel_rfl) (by kernel_rfl) (fun _ _ _ h => h) (Or.inl ⟨by rfl, ?_⟩) (by assumption) ?_
        rotate_left
        focus ((intro w hSw; (try dsimp only at hSw); go_simp) <;> (with_reducible rfl))
        try simp only [Act.put, List.setIfInBounds_toArray, List.set_cons_zero, List.set_cons_succ]
        refine wpAnyH_take (i := 8) (oi := { dst := some 19, op := Go.Op.move (Go.Operand.tmp 4), type := 3, pos := "law.go:53", after := #[], guard := none }) (v := ?_) rfl (by kernel_rfl) (by kernel_rfl) (by kernel_rfl) (fun _ _ _ h => h) (Or.inl ⟨by rfl, ?_⟩) (by assumption) ?_
        rotate_left
        focus ((intro w hSw; (try dsimp only at hSw); go_simp) <;> (with_reducible rfl))
        try simp only [Act.put, List.setIfInBounds_toArray, List.set_cons_zero, List.set_cons_succ]
        refine wpAnyH_take (i := 9) (oi := { dst := some 20, op := Go.Op.indexAddr 23 (Go.Operand.tmp 18) (Go.Operand.tmp 19), type := 0, pos := "law.go:53", after := #[{ on := 7, ground := Go.Ground.data }, { on := 8, ground := Go.Ground.data }], guard := none }) (v := ?_) rfl (by kernel_rfl) (by kernel_rfl) (by kernel_rfl) (fun _ _ _ h => h) (Or.inl ⟨by rfl, ?_⟩) (by assumption) ?_
        rotate_left
        focus ((intro w hSw; (try dsimp only at hSw); go_simp) <;> (with_reducible rfl))
        try simp only [Act.put, List.setIfInBounds_toArray, List.set_cons_zero, List.set_cons_succ]
        refine wpAnyH_take (i := 10) (oi := { dst := some 21, op := Go.Op.fieldAddr 45 (Go.Operand.tmp 20) 1, type := 0, pos := "law.go:53", after := #[{ on := 9, ground := Go.Ground.data }], guard := none }) (v := ?_) rfl (by kernel_rfl) (by kernel_rfl) (by kernel_rfl) (fun _ _ _ h => h) (Or.inl ⟨by rfl, ?_⟩) (by assumption) ?_
        rotate_left
        focus ((intro w hSw; (try dsimp only at hSw); go_simp) <;> (with_reducible rfl))
        try simp only [Act.put, List.setIfInBounds_toArray, List.set_cons_zero, List.set_cons_succ]
        refine wpAnyH_take (i := 11) (oi := { dst := some 22, op := Go.Op.load 43 (Go.Operand.tmp 21), type := 43, pos := "law.go:53", after := #[{ on := 10, ground := Go.Ground.data }], guard := none }) (v := ?_) rfl (by kernel_rfl) (by kernel_rfl) (by kernel_rfl) (fun _ _ _ h => h) (Or.inl ⟨by rfl, ?_⟩) (by assumption) ?_
        rotate_left
        focus ((intro w hSw; (try dsimp only at hSw); go_simp) <;> (with_reducible rfl))
        try simp only [Act.put, List.setIfInBounds_toArray, List.set_cons_zero, List.set_cons_succ]
        refine wpAnyH_ready (rs := [6]) (by kernel_rfl) (by simp) ?_
        refine AllReadyH.cons (o := { dst := some 17, op := Go.Op.buildSlice 43 0 #[], type := 43, pos := "law.go:53", after := #[], guard := none }) rfl (fun K hK => ?_) AllReadyH.nil
        go_simp
        refine hK.out _ _ ?_ (fun hNew => ?_)
        focus ((try dsimp only); (go_split_ands; refine K4.out _ ?_; repeat' (first | (with_reducible assumption) | (with_reducible exact Below.refl _ _) | (with_reducible refine Below.drew ?_) | (refine Below.alloc ?_ (by first | (have := hB.size; simp; omega) | (have := hB1.size; simp; omega)) _))))
        clear hK K hHeld
        have hHeld := hNew
        clear hNew
        try simp only [Act.put, List.setIfInBounds_toArray, List.set_cons_zero, List.set_cons_succ]
        refine wpAnyH_ready (rs := [12]) (by kernel_rfl) (by simp) ?_
        refine AllReadyH.cons (o := { dst := some 23, op := Go.Op.call { callee := Go.Callee.builtin Go.Builtin.append, args := #[Go.Operand.tmp 17, Go.Operand.tmp 22], argTypes := #[43, 43] }, type := 43, pos := "law.go:53", after := #[{ on := 6, ground := Go.Ground.data }, { on := 11, ground := Go.Ground.data }], guard := none }) rfl (fun K hK => ?_) AllReadyH.nil
        go_simp
        refine hK.out _ _ ?_ (fun hNew => ?_)
        focus ((try dsimp only); (go_split_ands; refine K4.out _ ?_; repeat' (first | (with_reducible assumption) | (with_reducible exact Below.refl _ _) | (with_reducible refine Below.drew ?_) | (refine Below.alloc ?_ (by first | (have := hB.size; simp; omega) | (have := hB1.size; simp; omega)) _))))
        clear hK K hHeld
        have hHeld := hNew
        clear hNew
        try simp only [Act.put, List.setIfInBounds_toArray, List.set_cons_zero, List.set_cons_succ]
        refine wpAnyH_take (i := 13) (oi := { dst := some 24, op := Go.Op.build 45 #[(0, Go.Operand.tmp 16), (1, Go.Operand.tmp 23)], type := 45, pos := "law.go:53", after := #[{ on := 5, ground := Go.Ground.data }, { on := 12, ground := Go.Ground.data }], guard := none }) (v := ?_) rfl (by kernel_rfl) (by kernel_rfl) (by kernel_rfl) (fun _ _ _ h => h) (Or.inl ⟨by rfl, ?_⟩) (by assumption) ?_
        rotate_left
        focus ((intro w hSw; (try dsimp only at hSw); go_simp) <;> (with_reducible rfl))
        try simp only [Act.put, List.setIfInBounds_toArray, List.set_cons_zero, List.set_cons_succ]
        refine wpAnyH_ready (rs := [14]) (by kernel_rfl) (by simp) ?_
        refine AllReadyH.cons (o := { dst := some 25, op := Go.Op.buildSlice 23 1 #[(0, Go.Operand.tmp 24)], type := 23, pos := "law.go:53", after := #[{ on := 13, ground := Go.Ground.data }], guard := none }) rfl (fun K hK => ?_) AllReadyH.nil
        go_simp
        refine hK.out _ _ ?_ (fun hNew => ?_)
        focus ((try dsimp only); (go_split_ands; refine K4.out _ ?_; repeat' (first | (with_reducible assumption) | (with_reducible exact Below.refl _ _) | (with_reducible refine Below.drew ?_) | (refine Below.alloc ?_ (by first | (have := hB.size; simp; omega) | (have := hB1.size; simp; omega)) _))))
        clear hK K hHeld
        have hHeld := hNew
        clear hNew
        try simp only [Act.put, List.setIfInBounds_toArray, List.set_cons_zero, List.set_cons_succ]
        refine wpAnyH_ready (rs := [15]) (by kernel_rfl) (by simp) ?_
        refine AllReadyH.cons (o := { dst := some 26, op := Go.Op.call { callee := Go.Callee.builtin Go.Builtin.append, args := #[Go.Operand.tmp 11, Go.Operand.tmp 25], argTypes := #[23, 23] }, type := 23, pos := "law.go:53", after := #[{ on := 0, ground := Go.Ground.data }, { on := 14, ground := Go.Ground.data }, { on := 12, ground := Go.Ground.chain }], guard := none }) rfl (fun K hK => ?_) AllReadyH.nil
        (have z4 : w.heap.size ≤ (World.drew (World.alloc (World.alloc wr (.cells #[] 47)) (.cells #[.int .i64 a, .slice (some ⟨wr.heap.size, 0, none⟩) 0 0] 45))).heap.size := (by show _ ≤ (World.alloc (World.alloc wr (.cells #[] 47)) (.cells #[.int .i64 a, .slice (some ⟨wr.heap.size, 0, none⟩) 0 0] 45)).heap.size; simp; omega); have hrow2 := ((hrow.alloc (.cells #[] 47)).alloc (.cells #[.int .i64 a, .slice (some ⟨wr.heap.size, 0, none⟩) 0 0] 45)).drew; have hnews : ∀ (j : Nat) u, ([.int .i64 a, .slice (some ⟨wr.heap.size, 0, none⟩) 0 0] : List Value)[j]? = some u → (World.drew (World.alloc (World.alloc wr (.cells #[] 47)) (.cells #[.int .i64 a, .slice (some ⟨wr.heap.size, 0, none⟩) 0 0] 45))).cell? ((⟨wr.heap.size + 1, 0, none⟩ : Addr).add j) = some u := (by have := cell_news (World.alloc wr (.cells #[] 47)) 45 [.int .i64 a, .slice (some ⟨wr.heap.size, 0, none⟩) 0 0]; rw [World.size_alloc] at this; exact this); refine step_append_lies _ rfl _ _ 23 rfl w.heap.size 45 i1 (.agg #[.int .i64 0, .slice none 0 0]) 2 32 Tryd.underlying23 hr hy0 hy1 hy2 rfl (by decide) (.slice q k d) k xs rfl hrow2 ⟨wr.heap.size + 1, 0, none⟩ 1 1 [.int .i64 a, .slice (some ⟨wr.heap.size, 0, none⟩) 0 0] rfl rfl hnews (by simp [Value.oneCell']) (by decide) (by unfold maxLen; omega) (by omega) z4 _ rfl ?_; intro g3 cap3 w3 hown3 hgrow3 _ _; have hB3 : Below w.heap.size w w3 := below_grownR (((hB.alloc hsz (.cells #[] 47)).alloc (by simp; omega) (.cells #[.int .i64 a, .slice (some ⟨wr.heap.size, 0, none⟩) 0 0] 45)).drew) z4 hgrow3 (fun r hr => (hrow2.lt r hr).1); have hxs3 : RowCsO w3 w.heap.size xs (rs.take k) := RowCsO.grown (hxs.kept fun _ _ _ h1 => ((h1.alloc (.cells #[] 47)).alloc (.cells #[.int .i64 a, .slice (some ⟨wr.heap.size, 0, none⟩) 0 0] 45)).drew) hrow2 hgrow3 (by decide); have hv3 := World.ownsRow.kept (((own_empty wr w.heap.size 47 3 hsz).alloc (.cells #[.int .i64 a, .slice (some ⟨wr.heap.size, 0, none⟩) 0 0] 45)).drew) hgrow3 (own_apart (((own_empty wr w.heap.size 47 3 hsz).alloc (.cells #[.int .i64 a, .slice (some ⟨wr.heap.size, 0, none⟩) 0 0] 45)).drew) hrow2 (by decide)))
        refine hK.out _ _ ?_ (fun hNew => ?_)
        focus ((try dsimp only); (go_split_ands; refine K4.out _ ?_; repeat' (first | (with_reducible assumption) | (with_reducible exact Below.refl _ _) | (with_reducible refine Below.drew ?_) | (refine Below.alloc ?_ (by first | (have := hB.size; simp; omega) | (have := hB1.size; simp; omega)) _))))
        clear hK K hHeld
        have hHeld := hNew
        clear hNew
        try simp only [Act.put, List.setIfInBounds_toArray, List.set_cons_zero, List.set_cons_succ]
        refine wpAnyH_take (i := 16) (oi := { dst := some 3, op := Go.Op.assign (Go.Operand.tmp 26), type := 23, pos := "law.go:53", after := #[{ on := 15, ground := Go.Ground.data }, { on := 15, ground := Go.Ground.chain }, { on := 0, ground := Go.Ground.phase }, { on := 1, ground := Go.Ground.phase }, { on := 2, ground := Go.Ground.phase }, { on := 3, ground := Go.Ground.phase }, { on := 4, ground := Go.Ground.phase }, { on := 5, ground := Go.Ground.phase }, { on := 6, ground := Go.Ground.phase }, { on := 7, ground := Go.Ground.phase }, { on := 8, ground := Go.Ground.phase }, { on := 9, ground := Go.Ground.phase }, { on := 10, ground := Go.Ground.phase }, { on := 11, ground := Go.Ground.phase }, { on := 12, ground := Go.Ground.phase }, { on := 13, ground := Go.Ground.phase }, { on := 14, ground := Go.Ground.phase }, { on := 15, ground := Go.Ground.phase }], guard := none }) (v := ?_) rfl (by kernel_rfl) (by kernel_rfl) (by kernel_rfl) (fun _ _ _ h => h) (Or.inl ⟨by rfl, ?_⟩) (by assumption) ?_
        rotate_left
        focus ((intro w hSw; (try dsimp only at hSw); go_simp) <;> (with_reducible rfl))
        try simp only [Act.put, List.setIfInBounds_toArray, List.set_cons_zero, List.set_cons_succ]
        refine wpAnyH_done (by kernel_rfl) ?_ _
        refine NoPanic.normal ?_
        go_wp2_with fail
        go_roundw
        case rel =>
          refine ⟨k + 1, xs ++ [.int .i64 a, .slice (some ⟨wr.heap.size, 0, none⟩) 0 0], some ⟨g3, 0, none⟩, cap3, by omega, by go_num, rfl, ?_, hown3, hB3⟩
          obtain ⟨e1, e2⟩ := HAW.out
          have := RowCsO.snoc (r := r) (by rw [e2]; exact hv3) hxs3
          rw [e1] at this
          rw [HT.out]
          exact this
        case measure => simp [intOf]; omega
    · have hwp : 0 < ws.length := by omega
      obtain ⟨wb2, wo2, rfl, hwb2, -⟩ := HX2.out 0 (by omega)
      have HNEW : Hid (∀ wx, Below w.heap.size w wx → ∀ (j : Nat) u, (wdsC ws)[j]? = some u → wx.cell? ((⟨wb2, wo2, none⟩ : Addr).add j) = some u) := Lib.hid (fun wx hx j u hu => by
        have hj : j < (wdsC ws).length := (List.getElem?_eq_some_iff.1 hu).1
        rw [wdsC_length] at hj
        have := HX2.out.cell j hj
        rw [List.getD_eq_getElem?_getD, hu] at this
        rw [Lib.add_plain]
        exact (hx.cell (p := ⟨wb2, wo2 + j, none⟩) hwb2).trans this)
      have hone : ∀ u ∈ wdsC ws, u.oneCell' = true := wdsC_one1 ws
      refine wp_region_noPanic ?_
      refine wp_region_held_drew (S := fun wx => Below w.heap.size w wx ∧ wx.cell? ⟨b1, o1 + k * 2, none⟩ = some (.int .i64 a) ∧ wx.cell? ⟨b1, o1 + k * 2 + 1, none⟩ = some (.slice (some ⟨wb2, wo2, none⟩) ws.length wc)) (by kernel_rfl) ?_ (fun hHeld => ?_)
      focus ((try dsimp only); (go_split_ands; refine K4.out _ ?_; repeat' (first | (with_reducible assumption) | (with_reducible exact Below.refl _ _) | (with_reducible refine Below.drew ?_) | (refine Below.alloc ?_ (by first | (have := hB.size; simp; omega) | (have := hB1.size; simp; omega)) _))))
      try simp only [Act.put, List.setIfInBounds_toArray, List.set_cons_zero, List.set_cons_succ]
      refine wpAnyH_take (i := 0) (oi := { dst := some 11, op := Go.Op.move (Go.Operand.tmp 3), type := 23, pos := "law.go:53", after := #[], guard := none }) (v := ?_) rfl (by kernel_rfl) (by kernel_rfl) (by kernel_rfl) (fun _ _ _ h => h) (Or.inl ⟨by rfl, ?_⟩) (by assumption) ?_
      rotate_left
      focus ((intro w hSw; (try dsimp only at hSw); go_simp) <;> (with_reducible rfl))
      try simp only [Act.put, List.setIfInBounds_toArray, List.set_cons_zero, List.set_cons_succ]
      refine wpAnyH_take (i := 1) (oi := { dst := some 12, op := Go.Op.move (Go.Operand.tmp 0), type := 23, pos := "law.go:53", after := #[], guard := none }) (v := ?_) rfl (by kernel_rfl) (by kernel_rfl) (by kernel_rfl) (fun _ _ _ h => h) (Or.inl ⟨by rfl, ?_⟩) (by assumption) ?_
      rotate_left
      focus ((intro w hSw; (try dsimp only at hSw); go_simp) <;> (with_reducible rfl))
      try simp only [Act.put, List.setIfInBounds_toArray, List.set_cons_zero, List.set_cons_succ]
      refine wpAnyH_take (i := 2) (oi := { dst := some 13, op := Go.Op.move (Go.Operand.tmp 4), type := 3, pos := "law.go:53", after := #[], guard := none }) (v := ?_) rfl (by kernel_rfl) (by kernel_rfl) (by kernel_rfl) (fun _ _ _ h => h) (Or.inl ⟨by rfl, ?_⟩) (by assumption) ?_
      rotate_left
      focus ((intro w hSw; (try dsimp only at hSw); go_simp) <;> (with_reducible rfl))
      try simp only [Act.put, List.setIfInBounds_toArray, List.set_cons_zero, List.set_cons_succ]
      refine wpAnyH_take (i := 3) (oi := { dst := some 14, op := Go.Op.indexAddr 23 (Go.Operand.tmp 12) (Go.Operand.tmp 13), type := 0, pos := "law.go:53", after := #[{ on := 1, ground := Go.Ground.data }, { on := 2, ground := Go.Ground.data }], guard := none }) (v := ?_) rfl (by kernel_rfl) (by kernel_rfl) (by kernel_rfl) (fun _ _ _ h => h) (Or.inl ⟨by rfl, ?_⟩) (by assumption) ?_
      rotate_left
      focus ((intro w hSw; (try dsimp only at hSw); go_simp) <;> (with_reducible rfl))
      try simp only [Act.put, List.setIfInBounds_toArray, List.set_cons_zero, List.set_cons_succ]
      refine wpAnyH_take (i := 4) (oi := { dst := some 15, op := Go.Op.fieldAddr 45 (Go.Operand.tmp 14) 0, type := 0, pos := "law.go:53", after := #[{ on := 3, ground := Go.Ground.data }], guard := none }) (v := ?_) rfl (by kernel_rfl) (by kernel_rfl) (by kernel_rfl) (fun _ _ _ h => h) (Or.inl ⟨by rfl, ?_⟩) (by assumption) ?_
      rotate_left
      focus ((intro w hSw; (try dsimp only at hSw); go_simp) <;> (with_reducible rfl))
      try simp only [Act.put, List.setIfInBounds_toArray, List.set_cons_zero, List.set_cons_succ]
      refine wpAnyH_take (i := 5) (oi := { dst := some 16, op := Go.Op.load 3 (Go.Operand.tmp 15), type := 3, pos := "law.go:53", after := #[{ on := 4, ground := Go.Ground.data }], guard := none }) (v := ?_) rfl (by kernel_rfl) (by kernel_rfl) (by kernel_rfl) (fun _ _ _ h => h) (Or.inl ⟨by rfl, ?_⟩) (by assumption) ?_
      rotate_left
      focus ((intro w hSw; (try dsimp only at hSw); go_simp) <;> (with_reducible rfl))
      try simp only [Act.put, List.setIfInBounds_toArray, List.set_cons_zero, List.set_cons_succ]
      refine wpAnyH_take (i := 7) (oi := { dst := some 18, op := Go.Op.move (Go.Operand.tmp 0), type := 23, pos := "law.go:53", after := #[], guard := none }) (v := ?_) rfl (by kernel_rfl) (by kernel_rfl) (by kernel_rfl) (fun _ _ _ h => h) (Or.inl ⟨by rfl, ?_⟩) (by assumption) ?_
      rotate_left
      focus ((intro w hSw; (try dsimp only at hSw); go_simp) <;> (with_reducible rfl))
      try simp only [Act.put, List.setIfInBounds_toArray, List.set_cons_zero, List.set_cons_succ]
      refine wpAnyH_take (i := 8) (oi := { dst := some 19, op := Go.Op.move (Go.Operand.tmp 4), type := 3, pos := "law.go:53", after := #[], guard := none }) (v := ?_) rfl (by kernel_rfl) (by kernel_rfl) (by kernel_rfl) (fun _ _ _ h => h) (Or.inl ⟨by rfl, ?_⟩) (by assumption) ?_
      rotate_left
      focus ((intro w hSw; (try dsimp only at hSw); go_simp) <;> (with_reducible rfl))
      try simp only [Act.put, List.setIfInBounds_toArray, List.set_cons_zero, List.set_cons_succ]
      refine wpAnyH_take (i := 9) (oi := { dst := some 20, op := Go.Op.indexAddr 23 (Go.Operand.tmp 18) (Go.Operand.tmp 19), type := 0, pos := "law.go:53", after := #[{ on := 7, ground := Go.Ground.data }, { on := 8, ground := Go.Ground.data }], guard := none }) (v := ?_) rfl (by kernel_rfl) (by kernel_rfl) (by kernel_rfl) (fun _ _ _ h => h) (Or.inl ⟨by rfl, ?_⟩) (by assumption) ?_
      rotate_left
      focus ((intro w hSw; (try dsimp only at hSw); go_simp) <;> (with_reducible rfl))
      try simp only [Act.put, List.setIfInBounds_toArray, List.set_cons_zero, List.set_cons_succ]
      refine wpAnyH_take (i := 10) (oi := { dst := some 21, op := Go.Op.fieldAddr 45 (Go.Operand.tmp 20) 1, type := 0, pos := "law.go:53", after := #[{ on := 9, ground := Go.Ground.data }], guard := none }) (v := ?_) rfl (by kernel_rfl) (by kernel_rfl) (by kernel_rfl) (fun _ _ _ h => h) (Or.inl ⟨by rfl, ?_⟩) (by assumption) ?_
      rotate_left
      focus ((intro w hSw; (try dsimp only at hSw); go_simp) <;> (with_reducible rfl))
      try simp only [Act.put, List.setIfInBounds_toArray, List.set_cons_zero, List.set_cons_succ]
      refine wpAnyH_take (i := 11) (oi := { dst := some 22, op := Go.Op.load 43 (Go.Operand.tmp 21), type := 43, pos := "law.go:53", after := #[{ on := 10, ground := Go.Ground.data }], guard := none }) (v := ?_) rfl (by kernel_rfl) (by kernel_rfl) (by kernel_rfl) (fun _ _ _ h => h) (Or.inl ⟨by rfl, ?_⟩) (by assumption) ?_
      rotate_left
      focus ((intro w hSw; (try dsimp only at hSw); go_simp) <;> (with_reducible rfl))
      try simp only [Act.put, List.setIfInBounds_toArray, List.set_cons_zero, List.set_cons_succ]
      refine wpAnyH_ready (rs := [6]) (by kernel_rfl) (by simp) ?_
      refine AllReadyH.cons (o := { dst := some 17, op := Go.Op.buildSlice 43 0 #[], type := 43, pos := "law.go:53", after := #[], guard := none }) rfl (fun K hK => ?_) AllReadyH.nil
      go_simp
      refine hK.out _ _ ?_ (fun hNew => ?_)
      focus ((try dsimp only); (go_split_ands; refine K4.out _ ?_; repeat' (first | (with_reducible assumption) | (with_reducible exact Below.refl _ _) | (with_reducible refine Below.drew ?_) | (refine Below.alloc ?_ (by first | (have := hB.size; simp; omega) | (have := hB1.size; simp; omega)) _))))
      clear hK K hHeld
      have hHeld := hNew
      clear hNew
      try simp only [Act.put, List.setIfInBounds_toArray, List.set_cons_zero, List.set_cons_succ]
      refine wpAnyH_ready (rs := [12]) (by kernel_rfl) (by simp) ?_
      refine AllReadyH.cons (o := { dst := some 23, op := Go.Op.call { callee := Go.Callee.builtin Go.Builtin.append, args := #[Go.Operand.tmp 17, Go.Operand.tmp 22], argTypes := #[43, 43] }, type := 43, pos := "law.go:53", after := #[{ on := 6, ground := Go.Ground.data }, { on := 11, ground := Go.Ground.data }], guard := none }) rfl (fun K hK => ?_) AllReadyH.nil
      (refine step_append_lies _ rfl _ _ 43 rfl w.heap.size 47 i0 (.agg #[.int .i64 0, .string ⟨#[]⟩, .bool false]) 3 32 Tryd.underlying43 hi hz0 hz1 hz2 rfl (by decide) (.slice (some ⟨wr.heap.size, 0, none⟩) 0 0) 0 [] rfl ((own_empty wr w.heap.size 47 3 hsz).drew) ⟨wb2, wo2, none⟩ ws.length wc (wdsC ws) rfl (wdsC_length ws) (HNEW.out _ (hB.alloc hsz _).drew) hone hwp (by unfold maxLen; omega) (by omega) (by simp; omega) _ rfl ?_; intro g1 cap1 w1 hown1 hgrow1 _ _; replace hgrow1 : World.grownBy _ w1 (some wr.heap.size) := hgrow1; simp only [Nat.zero_add, List.nil_append] at hown1 ⊢; have hB1 : Below w.heap.size w w1 := below_grownR (hB.alloc hsz (.cells #[] 47)).drew (by simp; omega) hgrow1 (fun r hr => by have : wr.heap.size = r := Option.some.inj hr; omega); have hrow1 : w1.ownsRow w.heap.size 45 2 (.slice q k d) k xs := ((hrow.alloc (.cells #[] 47)).drew).kept hgrow1 (.inr fun e => hlast _ e rfl); have hxs1 : RowCsO w1 w.heap.size xs (rs.take k) := hxs.kept fun v' _ _ h1 => ((h1.alloc (.cells #[] 47)).drew).kept hgrow1 (.inr fun e => absurd (h1.lt _ e).2 (by omega)))
      refine hK.out _ _ ?_ (fun hNew => ?_)
      focus ((try dsimp only); (go_split_ands; refine K4.out _ ?_; repeat' (first | (with_reducible assumption) | (with_reducible exact Below.refl _ _) | (with_reducible refine Below.drew ?_) | (refine Below.alloc ?_ (by first | (have := hB.size; simp; omega) | (have := hB1.size; simp; omega)) _))))
      clear hK K hHeld
      have hHeld := hNew
      clear hNew
      try simp only [Act.put, List.setIfInBounds_toArray, List.set_cons_zero, List.set_cons_succ]
      refine wpAnyH_take (i := 13) (oi := { dst := some 24, op := Go.Op.build 45 #[(0, Go.Operand.tmp 16), (1, Go.Operand.tmp 23)], type := 45, pos := "law.go:53", after := #[{ on := 5, ground := Go.Ground.data }, { on := 12, ground := Go.Ground.data }], guard := none }) (v := ?_) rfl (by kernel_rfl) (by kernel_rfl) (by kernel_rfl) (fun _ _ _ h => h) (Or.inl ⟨by rfl, ?_⟩) (by assumption) ?_
      rotate_left
      focus ((intro w hSw; (try dsimp only at hSw); go_simp) <;> (with_reducible rfl))
      try simp only [Act.put, List.setIfInBounds_toArray, List.set_cons_zero, List.set_cons_succ]
      refine wpAnyH_ready (rs := [14]) (by kernel_rfl) (by simp) ?_
      refine AllReadyH.cons (o := { dst := some 25, op := Go.Op.buildSlice 23 1 #[(0, Go.Operand.tmp 24)], type := 23, pos := "law.go:53", after := #[{ on := 13, ground := Go.Ground.data }], guard := none }) rfl (fun K hK => ?_) AllReadyH.nil
      go_simp
      refine hK.out _ _ ?_ (fun hNew => ?_)
      focus ((try dsimp only); (go_split_ands; refine K4.out _ ?_; repeat' (first | (with_reducible assumption) | (with_reducible exact Below.refl _ _) | (with_reducible refine Below.drew ?_) | (refine Below.alloc ?_ (by first | (have := hB.size; simp; omega) | (have := hB1.size; simp; omega)) _))))
      clear hK K hHeld
      have hHeld := hNew
      clear hNew
      try simp only [Act.put, List.setIfInBounds_toArray, List.set_cons_zero, List.set_cons_succ]
      refine wpAnyH_ready (rs := [15]) (by kernel_rfl) (by simp) ?_
      refine AllReadyH.cons (o := { dst := some 26, op := Go.Op.call { callee := Go.Callee.builtin Go.Builtin.append, args := #[Go.Operand.tmp 11, Go.Operand.tmp 25], argTypes := #[23, 23] }, type := 23, pos := "law.go:53", after := #[{ on := 0, ground := Go.Ground.data }, { on := 14, ground := Go.Ground.data }, { on := 12, ground := Go.Ground.chain }], guard := none }) rfl (fun K hK => ?_) AllReadyH.nil
      (have z4 : w.heap.size ≤ (World.alloc w1 (.cells #[.int .i64 a, .slice (some ⟨g1, 0, none⟩) ws.length cap1] 45)).heap.size := (by have := (hB1).size; (try simp at this ⊢) <;> omega); refine step_append_lies _ rfl _ _ 23 rfl w.heap.size 45 i1 (.agg #[.int .i64 0, .slice none 0 0]) 2 32 Tryd.underlying23 hr hy0 hy1 hy2 rfl (by decide) (.slice q k d) k xs rfl ((hrow1).alloc (.cells #[.int .i64 a, .slice (some ⟨g1, 0, none⟩) ws.length cap1] 45)) ⟨(w1).heap.size, 0, none⟩ 1 1 [.int .i64 a, .slice (some ⟨g1, 0, none⟩) ws.length cap1] rfl rfl (cell_news w1 _ _) (by simp [Value.oneCell']) (by decide) (by unfold maxLen; omega) (by omega) z4 _ rfl ?_; intro g3 cap3 w3 hown3 hgrow3 _ _; have hB3 : Below w.heap.size w w3 := below_grownR ((hB1).alloc (hB1).size (.cells #[.int .i64 a, .slice (some ⟨g1, 0, none⟩) ws.length cap1] 45)) z4 hgrow3 (fun r hr => (((hrow1).alloc (.cells #[.int .i64 a, .slice (some ⟨g1, 0, none⟩) ws.length cap1] 45)).lt r hr).1); have hxs3 : RowCsO w3 w.heap.size xs (rs.take k) := RowCsO.grown ((hxs1).kept fun _ _ _ h1 => h1.alloc (.cells #[.int .i64 a, .slice (some ⟨g1, 0, none⟩) ws.length cap1] 45)) ((hrow1).alloc (.cells #[.int .i64 a, .slice (some ⟨g1, 0, none⟩) ws.length cap1] 45)) hgrow3 (by decide); have hv3 := World.ownsRow.kept ((hown1).alloc (.cells #[.int .i64 a, .slice (some ⟨g1, 0, none⟩) ws.length cap1] 45)) hgrow3 (own_apart ((hown1).alloc (.cells #[.int .i64 a, .slice (some ⟨g1, 0, none⟩) ws.length cap1] 45)) ((hrow1).alloc (.cells #[.int .i64 a, .slice (some ⟨g1, 0, none⟩) ws.length cap1] 45)) (by decide)))
      refine hK.out _ _ ?_ (fun hNew => ?_)
      focus ((try dsimp only); (go_split_ands; refine K4.out _ ?_; repeat' (first | (with_reducible assumption) | (with_reducible exact Below.refl _ _) | (with_reducible refine Below.drew ?_) | (refine Below.alloc ?_ (by first | (have := hB.size; simp; omega) | (have := hB1.size; simp; omega)) _))))
      clear hK K hHeld
      have hHeld := hNew
      clear hNew
      try simp only [Act.put, List.setIfInBounds_toArray, List.set_cons_zero, List.set_cons_succ]
      refine wpAnyH_take (i := 16) (oi := { dst := some 3, op := Go.Op.assign (Go.Operand.tmp 26), type := 23, pos := "law.go:53", after := #[{ on := 15, ground := Go.Ground.data }, { on := 15, ground := Go.Ground.chain }, { on := 0, ground := Go.Ground.phase }, { on := 1, ground := Go.Ground.phase }, { on := 2, ground := Go.Ground.phase }, { on := 3, ground := Go.Ground.phase }, { on := 4, ground := Go.Ground.phase }, { on := 5, ground := Go.Ground.phase }, { on := 6, ground := Go.Ground.phase }, { on := 7, ground := Go.Ground.phase }, { on := 8, ground := Go.Ground.phase }, { on := 9, ground := Go.Ground.phase }, { on := 10, ground := Go.Ground.phase }, { on := 11, ground := Go.Ground.phase }, { on := 12, ground := Go.Ground.phase }, { on := 13, ground := Go.Ground.phase }, { on := 14, ground := Go.Ground.phase }, { on := 15, ground := Go.Ground.phase }], guard := none }) (v := ?_) rfl (by kernel_rfl) (by kernel_rfl) (by kernel_rfl) (fun _ _ _ h => h) (Or.inl ⟨by rfl, ?_⟩) (by assumption) ?_
      rotate_left
      focus ((intro w hSw; (try dsimp only at hSw); go_simp) <;> (with_reducible rfl))
      try simp only [Act.put, List.setIfInBounds_toArray, List.set_cons_zero, List.set_cons_succ]
      refine wpAnyH_done (by kernel_rfl) ?_ _
      refine NoPanic.normal ?_
      go_wp2_with fail
      go_roundw
      case rel =>
        refine ⟨k + 1, xs ++ [.int .i64 a, .slice (some ⟨g1, 0, none⟩) ws.length cap1], some ⟨g3, 0, none⟩, cap3, by omega, by go_num, rfl, ?_, hown3, hB3⟩
        obtain ⟨e1, e2⟩ := HAW.out
        have := RowCsO.snoc (r := r) (by rw [e2]; exact hv3) hxs3
        rw [e1] at this
        rw [HT.out]
        exact this
      case measure => simp [intOf]; omega
  · obtain rfl : k = rs.length := by omega
    have d1 : decide ((rs.length : Int) < (rs.length : Int)) = false := decide_eq_false (by omega)
    rw [List.take_length] at hxs
    go_wp2_with fail
    go_ret
    exact ⟨_, rfl, rows_of_own hrow hxs.plain, hB⟩
end Go.Proofs.YtacceiloggnekaaDoor
