/-
  The program's Rows for every text. The library's variables must hold what they hold.
-/
import Derived.Test.YtacceiloggnekaaDoorRPLines
import Derived.RegionIn
import Derived.BigRegionIn
import Derived.Sort.CutIn
namespace Go.Proofs.YtacceiloggnekaaDoor
open Go.RowKit Go.Shelf
attribute [local go_sem] Oper.semAt_some ba_get
/-- A step that moves no object but cells, and leaves a box alone. -/
structure Mv (Bt : Nat) (W W' : World) : Prop where
  ko : KeepsOthers W W'
  ka : KeepsAt (fun k => k = Bt) W W'
theorem Mv.trans {Bt : Nat} {X Y Z : World} (h : Mv Bt X Y) (k : Mv Bt Y Z) : Mv Bt X Z := ⟨h.ko.trans k.ko, h.ka.trans k.ka⟩
theorem Mv.alloc {Bt : Nat} {W : World} (h : Bt < W.heap.size) (o : Obj) : Mv Bt W (W.alloc o) := ⟨KeepsOthers.alloc W o, fun k hk => by subst hk; exact Below.heap_alloc _ _ _ h⟩
theorem Mv.set {Bt C : Nat} (W : World) (h : C ≠ Bt) (i : Nat) (a : Value) : Mv Bt W (W.setCell ⟨C, i, none⟩ a) := ⟨KeepsOthers.setCell _ _ _, fun k hk => by subst hk; exact Below.heap_setCell _ _ _ _ (fun e => h e.symm)⟩
theorem Mv.grow {Bt : Nat} {W W' : World} {row : Option Nat} (hg : W.grownBy W' row) (h : Bt < W.heap.size) (hne : some Bt ≠ row) (hc : ∀ (j : Nat) (o : Obj), row = some j → W.heap[j]? = some o → o.isCells = true) : Mv Bt W W' :=
  ⟨KeepsOthers.of_grownBy hg hc, fun k hk => by subst hk; exact hg.block _ h hne⟩
theorem cells_of_block {t : TypeId} {W : World} {B : Nat} {cs : List Value} (h : CBlk t W B cs) : ∀ (j : Nat) (o : Obj), some B = some j → W.heap[j]? = some o → o.isCells = true := fun j o e ho => by
  injection e with e
  subst e
  rw [show W.heap[B]? = _ from h] at ho
  cases ho
  rfl
theorem cells_of_own2 {W : World} {base : Nat} {e : TypeId} {size n : Nat} {v : Value} {xs : List Value} (h : W.ownsRow base e size v n xs) : ∀ (j : Nat) (o : Obj), v.ownBlock = some j → W.heap[j]? = some o → o.isCells = true := fun j o ej ho => by
  rcases h.2 with ⟨rfl, _⟩ | ⟨g, cap, cur, rfl, hb, hg, _⟩
  · simp [Value.ownBlock] at ej
  · obtain rfl : g = j := by simpa [Value.ownBlock] using ej
    rw [hg] at ho
    cases ho
    rfl
/-- Memory of Rows: its results, the rows so far. -/
structure RM (w W : World) (v : Value) (P : List Rw) (cs : List Value) : Prop where
  b0 : CBlk 23 W w.heap.size [.slice none 0 0]
  b1 : CBlk 26 W (w.heap.size + 1) [.int .i64 0, .int .i64 0]
  b2 : CBlk 23 W (w.heap.size + 1 + 1) [v]
  bx : ∃ s, CBlk 9 W (w.heap.size + 1 + 1 + 1) [s]
  row : W.ownsRow w.heap.size 45 2 v P.length cs
  rcs : RowCsO W w.heap.size cs P
  lt : w.heap.size + 1 + 1 + 1 < W.heap.size
theorem not_free {t : TypeId} {W : World} {B : Nat} {cs : List Value} (h : CBlk t W B cs) {row : Option Nat} (hr : ∀ r, row = some r → ∃ o : Obj, W.heap[r]? = some o ∧ o.isCells = false) : some B ≠ row := fun e => by
  obtain ⟨o, ho, hc⟩ := hr B e.symm
  rw [show W.heap[B]? = _ from h] at ho
  cases ho
  cases hc
theorem own_free {W : World} {base : Nat} {e : TypeId} {size n : Nat} {v : Value} {xs : List Value} (h : W.ownsRow base e size v n xs) {row : Option Nat} (hr : ∀ r, row = some r → ∃ o : Obj, W.heap[r]? = some o ∧ o.isCells = false) : v.ownBlock = none ∨ v.ownBlock ≠ row := by
  rcases h.2 with ⟨rfl, _⟩ | ⟨g, cap, cur, rfl, hb, hg, _⟩
  · exact .inl rfl
  · refine .inr fun e => ?_
    obtain ⟨o, ho, hc⟩ := hr g e.symm
    rw [hg] at ho
    cases ho
    cases hc
theorem RM.kept {w W W' : World} {v : Value} {P : List Rw} {cs : List Value} (h : RM w W v P cs) {row : Option Nat} (hg : W.grownBy W' row) (hr : ∀ r, row = some r → ∃ o : Obj, W.heap[r]? = some o ∧ o.isCells = false) : RM w W' v P cs :=
  ⟨h.b0.kept hg (not_free h.b0 hr), h.b1.kept hg (not_free h.b1 hr), h.b2.kept hg (not_free h.b2 hr), (have ⟨s, hs⟩ := h.bx; ⟨s, hs.kept hg (not_free hs hr)⟩), h.row.kept hg (own_free h.row hr), h.rcs.kept fun _ _ _ h1 => h1.kept hg (own_free h1 hr), Nat.lt_of_lt_of_le h.lt hg.size⟩
theorem RM.alloc {w W : World} {v : Value} {P : List Rw} {cs : List Value} (h : RM w W v P cs) (o : Obj) : RM w (W.alloc o) v P cs :=
  ⟨h.b0.alloc o, h.b1.alloc o, h.b2.alloc o, (have ⟨s, hs⟩ := h.bx; ⟨s, hs.alloc o⟩), h.row.alloc o, h.rcs.kept fun _ _ _ h1 => h1.alloc o, Nat.lt_of_lt_of_le h.lt (by simp)⟩
/-- Where a reader moves, all stays. -/
theorem RM.but {w W W' : World} {v : Value} {P : List Rw} {cs : List Value} (h : RM w W v P cs) {C : Nat} {xs : List Value} (hc : CBlk 60 W C xs) (hC : w.heap.size + 1 + 1 + 1 < C) (hg : W.grownBy W' (some C)) : RM w W' v P cs :=
  ⟨h.b0.kept hg (fun e => by injection e with e; omega), h.b1.kept hg (fun e => by injection e with e; omega), h.b2.kept hg (fun e => by injection e with e; omega), (have ⟨s, hs⟩ := h.bx; ⟨s, hs.kept hg (fun e => by injection e with e; omega)⟩),
    h.row.kept hg (.inr (fun e => hc.not_row (by decide) h.row e.symm)), h.rcs.kept fun _ _ _ h1 => h1.kept hg (.inr (fun e => hc.not_row (by decide) h1 e.symm)), Nat.lt_of_lt_of_le h.lt hg.size⟩
theorem rows2_results {w : World} {B C : Nat} {v c d : Value} (h1 : CBlk 23 w B [v]) (h2 : CBlk 26 w C [c, d]) {fn : Func} {p n : Tmp} (h : fn.results = #[.cell p 23, .cell n 26]) (tmps : Array Value)
    (hp : tmps.getD p undef = .pointer (some ⟨B, 0, none⟩)) (hn : tmps.getD n undef = .pointer (some ⟨C, 0, none⟩)) : (Go.results fn tmps).run Tryd.prog w = .ok (.tuple #[v, .agg #[c, d]]) w := by
  have hp' : tmps[p]?.getD undef = .pointer (some ⟨B, 0, none⟩) := by simpa using hp
  have hn' : tmps[n]?.getD undef = .pointer (some ⟨C, 0, none⟩) := by simpa using hn
  have c0 := h1.cell 0 (by simp)
  simp only [List.getElem_cons_zero] at c0
  obtain ⟨d0, d1⟩ := h2.cells2
  simp [Go.results, h, hp', hn', asAddr, go_sem, c0, d0, d1]
theorem drewKeep {B : Nat} {W W' : World} (h : KeepsFrom B W W') : KeepsFrom B W W'.drew := ⟨h.size, h.same⟩
/-- Rows ends with a fault: its results. -/
structure RE (w W : World) (z : Nat × Nat) : Prop where
  b0 : CBlk 23 W w.heap.size [.slice none 0 0]
  b1 : CBlk 26 W (w.heap.size + 1) [.int .i64 (z.1 : Int), .int .i64 (z.2 : Int)]
theorem RE.kept {w W W' : World} {z : Nat × Nat} (h : RE w W z) {row : Option Nat} (hg : W.grownBy W' row) (hr : ∀ r, row = some r → ∃ o : Obj, W.heap[r]? = some o ∧ o.isCells = false) : RE w W' z :=
  ⟨h.b0.kept hg (not_free h.b0 hr), h.b1.kept hg (not_free h.b1 hr)⟩
theorem RE.drewE {w W : World} {z : Nat × Nat} (h : RE w W z) : RE w W.drew z := ⟨h.b0, h.b1⟩
theorem RM.fault {w W : World} {v : Value} {P : List Rw} {cs : List Value} (h : RM w W v P cs) (z : Nat × Nat) : RE w (((W.setCell ⟨w.heap.size, 0, none⟩ (.slice none 0 0)).setCell ⟨w.heap.size + 1, 0, none⟩ (.int .i64 (z.1 : Int))).setCell ⟨w.heap.size + 1, 1, none⟩ (.int .i64 (z.2 : Int))) z :=
  ⟨((h.b0.set 0 (.slice none 0 0)).other _ (by show w.heap.size + 1 ≠ _; omega) _).other _ (by show w.heap.size + 1 ≠ _; omega) _, (h.b1.other _ (by show w.heap.size ≠ _; omega) _).store2 rfl _ _⟩
set_option maxRecDepth 100000 in
set_option maxHeartbeats 16000000 in
theorem rows_small (l : List UInt8) (hl : ¬ 20000 < l.length) (w : World) (hT : VT w) :
    Calls Tryd.prog 11 #[.string ⟨l.toArray⟩] w fun e w' => RowsPost (rowsL l) e w' ∧ Below w.heap.size w w' := by
  obtain ⟨i0, hi, hz0, hz1, hz2⟩ := info_parts infoR
  have hRL : Hid (rowsL l = foldR (linesG 0 l)) := Lib.hid (by rw [foldR_lines]; unfold rowsL; rw [if_neg hl])
  have hl9 : l.length < 900000 := by omega
  have d0 : decide ((20000 : Int) < (l.length : Int)) = false := decide_eq_false (by omega)
  have d0n : decide (20000 < l.length) = false := decide_eq_false hl
  refine (callsIn_wide (n := 3)).1 ?_
  refine callsIn_of_wp_marks Tryd.func11 rfl trivial ?_ rfl
  simp only [Tryd.ntmps11, List.size_toArray, List.length_cons, List.length_nil, Nat.reduceAdd, Nat.reduceSub, Array.replicate_succ, Array.replicate_zero, List.push_toArray, List.append_toArray, List.nil_append, List.cons_append]
  gi_wp2_with (refine ⟨trivial, ?_⟩; gi_at_call 32; refine (callsIn_wide.2 (lines_any _ _)).mono ?_; rintro e w' ⟨rfl, rfl⟩)
  generalize hw4 : (((w.alloc (.cells #[.slice none 0 0] 23)).alloc (.cells #[.int .i64 0, .int .i64 0] 26)).alloc (.cells #[.slice none 0 0] 23)).alloc (.cells #[.string ⟨l.toArray⟩] 9) = w4
  have hz4 : w4.heap.size = w.heap.size + 4 := by rw [← hw4]; simp
  have hB4 : Below w.heap.size w w4 := by rw [← hw4]; go_grown
  have hM4 : RM w w4 (.slice none 0 0) [] [] := by
    refine ⟨?_, ?_, ?_, ⟨.string ⟨l.toArray⟩, ?_⟩, World.ownsRow_nil _ _ _ _, trivial, by omega⟩
    · rw [← hw4]; exact (((CBlk.new 23 w [.slice none 0 0]).alloc _).alloc _).alloc _
    · have := ((CBlk.new 26 (w.alloc (.cells #[.slice none 0 0] 23)) [.int .i64 0, .int .i64 0]).alloc (.cells #[.slice none 0 0] 23)).alloc (.cells #[.string ⟨l.toArray⟩] 9)
      rw [World.size_alloc] at this
      rw [← hw4]; exact this
    · have := (CBlk.new 23 ((w.alloc (.cells #[.slice none 0 0] 23)).alloc (.cells #[.int .i64 0, .int .i64 0] 26)) [.slice none 0 0]).alloc (.cells #[.string ⟨l.toArray⟩] 9)
      rw [World.size_alloc, World.size_alloc] at this
      rw [← hw4]; exact this
    · have := CBlk.new 9 (((w.alloc (.cells #[.slice none 0 0] 23)).alloc (.cells #[.int .i64 0, .int .i64 0] 26)).alloc (.cells #[.slice none 0 0] 23)) [.string ⟨l.toArray⟩]
      rw [World.size_alloc, World.size_alloc, World.size_alloc] at this
      rw [← hw4]; exact this
  have hc4 : w4.cell? ⟨w.heap.size + 1 + 1 + 1, 0, none⟩ = some (.string ⟨l.toArray⟩) := by
    have := (CBlk.new 9 (((w.alloc (.cells #[.slice none 0 0] 23)).alloc (.cells #[.int .i64 0, .int .i64 0] 26)).alloc (.cells #[.slice none 0 0] 23)) [.string ⟨l.toArray⟩]).cell 0 (by simp)
    rw [World.size_alloc, World.size_alloc, World.size_alloc] at this
    rw [← hw4]; exact this
  clear hw4
  refine wpIn_rangeFunc_ownG rfl (by omega) (gf := 43) (lb := #[.pointer (some ⟨w.heap.size + 1 + 1 + 1, 0, none⟩)]) rfl trivial (enters_of Tryd.func43 (by kernel_rfl) rfl)
    (lines_stops (3 - 1) (by omega) (w.heap.size + 1 + 1 + 1) l hl9 w4 hc4)
    KeepsAt.trans (keepsAt_b (by intro k hk; subst hk; omega)) (Below.refl _ _) (fun _ => rfl)
    (fun pre W => (∃ P cs v, foldR (pre.map (·.1)) = .inr P ∧ RM w W v P cs) ∧ Below w.heap.size w W)
    (fun c pre W => (c = .ret ∧ ∃ z, foldR (pre.map (·.1)) = .inl z ∧ RE w W z) ∧ Below w.heap.size w W)
    (OwnFrom.and (Own.from (fun s A B row hs hg hr => by obtain ⟨P, cs, v, e1, e2⟩ := hs; exact ⟨P, cs, v, e1, e2.kept hg hr⟩) _) (ownFrom_below (Nat.le_refl _) (by omega)))
    (fun c => OwnFrom.and (Own.from (fun s A B row hs hg hr => by obtain ⟨hc, z, e1, e2⟩ := hs; exact ⟨hc, z, e1, e2.kept hg hr⟩) _) (ownFrom_below (Nat.le_refl _) (by omega)))
    ⟨⟨[], [], _, rfl, hM4⟩, hB4⟩
    (fun x => { tmps := #[Value.string ⟨l.toArray⟩, undef, .pointer (some ⟨w.heap.size, 0, none⟩), .pointer (some ⟨w.heap.size + 1, 0, none⟩), .pointer (some ⟨w.heap.size + 1 + 1, 0, none⟩), .int .i64 (x.1.1 : Int), .string ⟨x.1.2.toArray⟩, undef, undef, undef, .string ⟨l.toArray⟩, .int .i64 (l.length : Int), .bool false, undef, .string ⟨l.toArray⟩, .func (.func 43) #[] #[.pointer (some ⟨w.heap.size + 1 + 1 + 1, 0, none⟩)], .int .i64 (x.1.1 : Int), .string ⟨x.1.2.toArray⟩, undef, undef, undef, undef, undef, undef, undef, undef, undef, undef, undef, undef, undef, undef, undef, undef, undef, undef, undef, undef, undef, undef, undef, undef, undef, undef, undef, undef], defers := [] }) ?assign ?body ?done ?stop
  case assign =>
    intro lp x W K hK
    unfold encX
    gi_wp2
    exact hK
  case body =>
    rintro lp pre ⟨⟨o, t⟩, ho, ht⟩ W ⟨⟨P, cs, v, hfo, hM⟩, hB⟩ hlen
    dsimp only at ho ht ⊢
    have hstep : foldR ((pre ++ [(⟨(o, t), ho, ht⟩ : LineX)]).map (·.1)) = stepR (.inr P) (o, t) := by
      rw [List.map_append, List.map_cons, List.map_nil, foldR_snoc, hfo]
    have hPl : P.length < 1000000 := by
      have := foldR_len _ _ hfo
      rw [List.length_map] at this
      omega
    rw [stepR_inr] at hstep
    clear hfo
    generalize pre ++ [(⟨(o, t), ho, ht⟩ : LineX)] = pre2 at hstep ⊢
    have hlt := hM.lt
    have hBs := hB.size
    obtain ⟨ov, oc, rfl⟩ := own_slice hM.row
    by_cases h1 : 1000 < t.length
    · rw [if_pos h1] at hstep
      have d1 : decide ((1000 : Int) < (t.length : Int)) = true := decide_eq_true (by omega)
      have d1n : decide (1000 < t.length) = true := decide_eq_true h1
      have c0 := hM.b0.cell 0 (by simp)
      simp only [List.getElem_cons_zero] at c0
      obtain ⟨c1, c2⟩ := hM.b1.cells2
      have f0 := hM.b0.free 0
      have f1 := hM.b1.free 0
      have f2 := hM.b1.free 1
      have HST := Lib.hid hstep
      clear hstep h1
      gi_wp2_with fail
      refine ⟨?_, ⟨rfl, (4, o), HST.out, hM.fault (4, o)⟩, ?_⟩
      · exact (((KeepsOthers.setCell _ _ _).trans (KeepsOthers.setCell _ _ _)).trans (KeepsOthers.setCell _ _ _)).from _
      · exact ((hB.setCell (p := ⟨w.heap.size, 0, none⟩) (Nat.le_refl _) _).setCell (p := ⟨w.heap.size + 1, 0, none⟩) (by show _ ≤ w.heap.size + 1; omega) _).setCell (p := ⟨w.heap.size + 1, 1, none⟩) (by show _ ≤ w.heap.size + 1; omega) _
    · rw [if_neg h1] at hstep
      have d1 : decide ((1000 : Int) < (t.length : Int)) = false := decide_eq_false (by omega)
      have d1n : decide (1000 < t.length) = false := decide_eq_false h1
      have hb1 : CBlk 60 (W.alloc (.cells #[.string ⟨t.toArray⟩, .int .i64 0, .int .i64 (o : Int)] 60)) W.heap.size [.string ⟨t.toArray⟩, .int .i64 0, .int .i64 (o : Int)] := CBlk.new 60 W _
      have hM1 := hM.alloc (.cells #[.string ⟨t.toArray⟩, .int .i64 0, .int .i64 (o : Int)] 60)
      have hB1 : Below w.heap.size w (W.alloc (.cells #[.string ⟨t.toArray⟩, .int .i64 0, .int .i64 (o : Int)] 60)) := hB.alloc hBs _
      have hm1 : Mv (w.heap.size + 1 + 1 + 1) W (W.alloc (.cells #[.string ⟨t.toArray⟩, .int .i64 0, .int .i64 (o : Int)] 60)) := Mv.alloc hlt _
      have hCC : W.heap.size < (W.alloc (.cells #[.string ⟨t.toArray⟩, .int .i64 0, .int .i64 (o : Int)] 60)).heap.size := by simp
      have hV1 : VTB (W.alloc (.cells #[.string ⟨t.toArray⟩, .int .i64 0, .int .i64 (o : Int)] 60)) W.heap.size := VTB.of hT hB1 hBs
      have hWA := words_any t ht o ho W.heap.size (W.alloc (.cells #[.string ⟨t.toArray⟩, .int .i64 0, .int .i64 (o : Int)] 60)) hCC hb1 hV1
      obtain ⟨R, hR⟩ : ∃ R, rowL o t = R := ⟨_, rfl⟩
      rw [hR] at hstep hWA
      have hRl : ∀ ws, R = .inr ws → ws.length ≤ t.length := fun ws e => rowL_length o t ws (hR.trans e)
      obtain ⟨W1, hW1⟩ : ∃ W1, W.alloc (.cells #[.string ⟨t.toArray⟩, .int .i64 0, .int .i64 (o : Int)] 60) = W1 := ⟨_, rfl⟩
      rw [hW1] at hb1 hM1 hB1 hm1 hCC hWA
      have HWA := Lib.hid hWA
      have HB1 : Hid (CBlk 60 W1 W.heap.size [.string ⟨t.toArray⟩, .int .i64 0, .int .i64 (o : Int)]) := Lib.hid hb1
      have HM1 := Lib.hid hM1
      have HLB := Lib.hid hB1
      have Hm1 := Lib.hid hm1
      have hsz1 := hB1.size
      clear h1 hV1 hWA hb1 hM1 hB1 hm1 hR
      gi_upto_region 10 with fail
      clear hW1
      gi_wp2_with fail
      refine ⟨trivial, ?_⟩
      refine (CallsIn.inRound lp (callsIn_wide.2 HWA.out)).mono ?_
      rintro e w2 ⟨hpost, hg⟩
      have hM2 := HM1.out.but HB1.out hlt hg
      have hB2 := below_grownR HLB.out hsz1 hg (fun r hr => by injection hr with hr; omega)
      have hm2 : Mv (w.heap.size + 1 + 1 + 1) W w2 := Hm1.out.trans (Mv.grow hg HM1.out.lt (fun e => by injection e with e; omega) (cells_of_block HB1.out))
      have hsz2 := hg.size
      clear hg
      cases R with
      | inl p =>
        unfold WsPost at hpost
        dsimp only at hpost hstep
        subst hpost
        have HST := Lib.hid hstep
        clear hstep
        have hM3 := hM2.alloc (.cells #[.int .i64 3, .int .i64 (p : Int)] 26)
        have hB3 := hB2.alloc hB2.size (.cells #[.int .i64 3, .int .i64 (p : Int)] 26)
        have hm3 := hm2.trans (Mv.alloc hM2.lt (.cells #[.int .i64 3, .int .i64 (p : Int)] 26))
        have hbf : CBlk 26 (w2.alloc (.cells #[.int .i64 3, .int .i64 (p : Int)] 26)) w2.heap.size [.int .i64 3, .int .i64 (p : Int)] := CBlk.new 26 w2 _
        have hlt2 := hM2.lt
        obtain ⟨W3, hW3⟩ : ∃ W3, w2.alloc (.cells #[.int .i64 3, .int .i64 (p : Int)] 26) = W3 := ⟨_, rfl⟩
        rw [hW3] at hM3 hB3 hm3 hbf
        obtain ⟨g0, g1⟩ := hbf.cells2
        have c0 := hM3.b0.cell 0 (by simp)
        simp only [List.getElem_cons_zero] at c0
        obtain ⟨c1, c2⟩ := hM3.b1.cells2
        have f0 := hM3.b0.free 0
        have f1 := hM3.b1.free 0
        have f2 := hM3.b1.free 1
        have HM3 := Lib.hid hM3
        have HB3 := Lib.hid hB3
        have Hm3 := Lib.hid hm3
        clear hM2 hB2 hm2 hM3 hB3 hm3 HB1 HM1 HLB Hm1 HWA
        gi_upto_region 11 with fail
        clear hW3
        gi_upto_region 12 with fail
        gi_region
        all_goals
          gi_wp2_with fail
          refine ⟨?_, ⟨rfl, (3, p), HST.out, (HM3.out.fault (3, p)).drewE⟩, ?_⟩
          · exact drewKeep ((Hm3.out.ko.trans (((KeepsOthers.setCell _ _ _).trans (KeepsOthers.setCell _ _ _)).trans (KeepsOthers.setCell _ _ _))).from _)
          · exact ((((HB3.out.setCell (p := ⟨w.heap.size, 0, none⟩) (Nat.le_refl _) _).setCell (p := ⟨w.heap.size + 1, 0, none⟩) (by show _ ≤ w.heap.size + 1; omega) _).setCell (p := ⟨w.heap.size + 1, 1, none⟩) (by show _ ≤ w.heap.size + 1; omega) _)).drew
      | inr ws =>
        unfold WsPost at hpost
        dsimp only at hpost hstep
        obtain ⟨v2, rfl, hv2⟩ := hpost
        have HST := Lib.hid hstep
        have hwsl := hRl ws rfl
        obtain ⟨wp, wc, rfl⟩ := own_slice hv2
        have hv2 := own_mono hv2 hsz1
        clear hstep hRl
        have hM3 := hM2.alloc (.cells #[.int .i64 0, .int .i64 0] 26)
        have hB3 := hB2.alloc hB2.size (.cells #[.int .i64 0, .int .i64 0] 26)
        have hm3 := hm2.trans (Mv.alloc hM2.lt (.cells #[.int .i64 0, .int .i64 0] 26))
        have hbf : CBlk 26 (w2.alloc (.cells #[.int .i64 0, .int .i64 0] 26)) w2.heap.size [.int .i64 0, .int .i64 0] := CBlk.new 26 w2 _
        have hv3 := World.ownsRow.alloc hv2 (.cells #[.int .i64 0, .int .i64 0] 26)
        obtain ⟨W3, hW3⟩ : ∃ W3, w2.alloc (.cells #[.int .i64 0, .int .i64 0] 26) = W3 := ⟨_, rfl⟩
        rw [hW3] at hM3 hB3 hm3 hbf hv3
        obtain ⟨g0, g1⟩ := hbf.cells2
        have HM3 := Lib.hid hM3
        have HB3 := Lib.hid hB3
        have Hm3 := Lib.hid hm3
        have HV3 := Lib.hid hv3
        clear hM2 hB2 hm2 hM3 hB3 hm3 hv2 hv3 HB1 HM1 HLB Hm1 HWA
        have HW3 := Lib.hid hW3
        clear hW3
        gi_upto_region 11 with fail
        rw [HW3.out]
        clear HW3
        by_cases hw0 : ws.length = 0
        · have d5 : decide ((0 : Int) < (ws.length : Int)) = false := decide_eq_false (by omega)
          have d5n : decide (0 < ws.length) = false := decide_eq_false (by omega)
          have HX : Hid (foldR (pre2.map (·.1)) = .inr P) := Lib.hid (by rw [HST.out, if_pos hw0])
          clear hw0
          gi_wp2_with fail
          exact ⟨Hm3.out.ko.from _, Hm3.out.ka, ⟨P, cs, _, HX.out, HM3.out⟩, HB3.out⟩
        · have d5 : decide ((0 : Int) < (ws.length : Int)) = true := decide_eq_true (by omega)
          have d5p : 0 < ws.length := by omega
          have d5n : decide (0 < ws.length) = true := decide_eq_true d5p
          have HX : Hid (foldR (pre2.map (·.1)) = .inr (P ++ [⟨(o : Int), ws⟩])) := Lib.hid (by rw [HST.out, if_neg hw0])
          have z1 : (Value.agg #[.int .i64 0, .slice none 0 0]).cells.size = 2 := by rfl
          have z2 : ∀ u ∈ ([.int .i64 (o : Int), .slice wp ws.length wc] : List Value), u.oneCell' = true := by simp [Value.oneCell']
          have z3 : P.length + 1 ≤ maxLen := by unfold maxLen; omega
          have hM4 := HM3.out.alloc (.cells #[.int .i64 (o : Int), .slice wp ws.length wc] 45)
          have hB4 := HB3.out.alloc HB3.out.size (.cells #[.int .i64 (o : Int), .slice wp ws.length wc] 45)
          have hm4 := Hm3.out.trans (Mv.alloc HM3.out.lt (.cells #[.int .i64 (o : Int), .slice wp ws.length wc] 45))
          have hv4 := World.ownsRow.alloc HV3.out (.cells #[.int .i64 (o : Int), .slice wp ws.length wc] 45)
          have z4 := hB4.size
          have c3 := HM3.out.b2.cell 0 (by simp)
          simp only [List.getElem_cons_zero] at c3
          have HM4 := Lib.hid hM4
          have HB4 := Lib.hid hB4
          have Hm4 := Lib.hid hm4
          have HV4 := Lib.hid hv4
          clear hw0 hM4 hB4 hm4 hv4
          gi_wp2_with (gi_at_builtin; refine wpListIn_append_own _ rfl _ _ 23 rfl w.heap.size 45 i0 (.agg #[.int .i64 0, .slice none 0 0]) 2 32 Tryd.underlying23 hi hz0 hz1 hz2 z1 (by decide) _ _ _ rfl HM4.out.row ⟨W3.heap.size, 0, none⟩ 1 1 [.int .i64 (o : Int), .slice wp ws.length wc] rfl rfl (cell_news W3 _ _) z2 z3 (by omega) z4 ?_; intro v' w6 hown' hgrow _; obtain ⟨g, cc, rfl, -, -⟩ := World.ownsRow.form hown' (by omega); have HG := Lib.hid hgrow; have HO := Lib.hid hown'; have b26 := HM4.out.b2.kept hgrow (HM4.out.b2.not_row (by decide) HM4.out.row); clear hgrow hown'; have k3 := b26.cell 0 (by simp); simp only [List.getElem_cons_zero] at k3; have k4 := b26.free 0)
          have hbx6 : ∃ s, CBlk 9 w6 (w.heap.size + 1 + 1 + 1) [s] := have ⟨s, hs⟩ := HM4.out.bx; ⟨s, hs.kept HG.out (hs.not_row (by decide) HM4.out.row)⟩
          have hM6 : RM w (w6.setCell ⟨w.heap.size + 1 + 1, 0, none⟩ (.slice (some ⟨g, 0, none⟩) (P.length + 1) cc)) (.slice (some ⟨g, 0, none⟩) (P.length + 1) cc) (P ++ [⟨(o : Int), ws⟩]) (cs ++ [.int .i64 (o : Int), .slice wp ws.length wc]) := by
            have hrc : RowCsO w6 w.heap.size (cs ++ [.int .i64 (o : Int), .slice wp ws.length wc]) (P ++ [⟨(o : Int), ws⟩]) := RowCsO.snoc (r := ⟨(o : Int), ws⟩) (HV4.out.kept HG.out (own_apart HV4.out HM4.out.row (by decide))) (RowCsO.grown HM4.out.rcs HM4.out.row HG.out (by decide))
            refine ⟨(HM4.out.b0.kept HG.out (HM4.out.b0.not_row (by decide) HM4.out.row)).other _ (by show w.heap.size + 1 + 1 ≠ _; omega) _, (HM4.out.b1.kept HG.out (HM4.out.b1.not_row (by decide) HM4.out.row)).other _ (by show w.heap.size + 1 + 1 ≠ _; omega) _, b26.set 0 (.slice (some ⟨g, 0, none⟩) (P.length + 1) cc), hbx6.imp fun _ h => h.other _ (by show w.heap.size + 1 + 1 ≠ _; omega) _, ?_, hrc.store b26 (by decide) 0 (.slice (some ⟨g, 0, none⟩) (P.length + 1) cc), ?_⟩
            · rw [List.length_append]
              exact own_store HO.out b26 (by decide) 0 (.slice (some ⟨g, 0, none⟩) (P.length + 1) cc)
            · have h1 := HM4.out.lt
              have h2 := HG.out.size
              simp only [World.size_setCell]
              omega
          refine ⟨?_, ?_, ⟨_, _, _, HX.out, hM6⟩, ?_⟩
          · exact (Hm4.out.ko.trans ((KeepsOthers.of_grownBy HG.out (cells_of_own2 HM4.out.row)).trans (KeepsOthers.setCell _ _ _))).from _
          · refine (Hm4.out.trans ((Mv.grow HG.out HM4.out.lt ?_ (cells_of_own2 HM4.out.row)).trans (Mv.set w6 (C := w.heap.size + 1 + 1) (by omega) 0 (.slice (some ⟨g, 0, none⟩) (P.length + 1) cc)))).ka
            have ⟨s, hs⟩ := HM4.out.bx
            exact hs.not_row (by decide) HM4.out.row
          · exact (below_grownR HB4.out z4 HG.out (fun r hr => (HM4.out.row.lt r hr).1)).setCell (p := ⟨w.heap.size + 1 + 1, 0, none⟩) (by show _ ≤ w.heap.size + 1 + 1; omega) _
  case done =>
    rintro D ys W hD hS ⟨⟨P, cs, v, hfo, hM⟩, hB⟩ hK
    rw [hS] at hfo
    obtain ⟨ov, oc, rfl⟩ := own_slice hM.row
    have c0 := hM.b0.cell 0 (by simp)
    simp only [List.getElem_cons_zero] at c0
    obtain ⟨c1, c2⟩ := hM.b1.cells2
    have f0 := hM.b0.free 0
    have f1 := hM.b1.free 0
    have f2 := hM.b1.free 1
    have c3 := hM.b2.cell 0 (by simp)
    simp only [List.getElem_cons_zero] at c3
    have HFO := Lib.hid hfo
    clear hfo hS
    gi_wp2_with fail
    obtain ⟨W2, hW2⟩ : ∃ W2, ((W.setCell ⟨w.heap.size, 0, none⟩ (.slice ov P.length oc)).setCell ⟨w.heap.size + 1, 0, none⟩ (.int .i64 0)).setCell ⟨w.heap.size + 1, 1, none⟩ (.int .i64 0) = W2 := ⟨_, rfl⟩
    rw [hW2]
    have hb0 : CBlk 23 W2 w.heap.size [.slice ov P.length oc] := by rw [← hW2]; exact ((hM.b0.set 0 (.slice ov P.length oc)).other _ (by show w.heap.size + 1 ≠ _; omega) _).other _ (by show w.heap.size + 1 ≠ _; omega) _
    have hb1 : CBlk 26 W2 (w.heap.size + 1) [.int .i64 0, .int .i64 0] := by rw [← hW2]; exact (hM.b1.other _ (by show w.heap.size ≠ _; omega) _).store2 rfl _ _
    have hf1 : CBlk 26 (W.setCell ⟨w.heap.size, 0, none⟩ (.slice ov P.length oc)) (w.heap.size + 1) [.int .i64 0, .int .i64 0] := hM.b1.other _ (by show w.heap.size ≠ _; omega) _
    have hro : W2.ownsRow w.heap.size 45 2 (.slice ov P.length oc) P.length cs := by rw [← hW2]; exact own_store2 (own_store hM.row hM.b0 (by decide) 0 _) hf1 (by decide) _ _
    have hrc : RowCsO W2 w.heap.size cs P := by rw [← hW2]; exact ((hM.rcs.store hM.b0 (by decide) 0 _).store hf1 (by decide) 0 _).store (hf1.set 0 _) (by decide) 1 _
    have hB2 : Below w.heap.size w W2 := by rw [← hW2]; exact ((hB.setCell (p := ⟨w.heap.size, 0, none⟩) (Nat.le_refl _) _).setCell (p := ⟨w.heap.size + 1, 0, none⟩) (by show _ ≤ w.heap.size + 1; omega) _).setCell (p := ⟨w.heap.size + 1, 1, none⟩) (by show _ ≤ w.heap.size + 1; omega) _
    have hK2 : W2.heap[D]? = some (.deferred (some [])) := by rw [← hW2]; exact (((KeepsOthers.setCell W ⟨w.heap.size, 0, none⟩ (.slice ov P.length oc)).trans (KeepsOthers.setCell _ ⟨w.heap.size + 1, 0, none⟩ (.int .i64 0))).trans (KeepsOthers.setCell _ ⟨w.heap.size + 1, 1, none⟩ (.int .i64 0))).same D _ hK rfl
    clear hW2 hf1
    have hgp := grownBy_putObj' W2 D (.deferred none)
    have hrp : ∀ r, some D = some r → ∃ o : Obj, W2.heap[r]? = some o ∧ o.isCells = false := fun r e => by cases e; exact ⟨_, hK2, rfl⟩
    refine ⟨by simp, .inl ⟨_, _, rfl, run_takeDeferred hK2, ?_⟩⟩
    refine ⟨_, rows2_results (hb0.kept hgp (not_free hb0 hrp)) (hb1.kept hgp (not_free hb1 hrp)) rfl _ rfl rfl, ?_, hB2.trans (belowK_b (w := w) (Nat.le_refl _) _ D _ _ (by omega) hK2 rfl rfl)⟩
    rw [hRL.out, HFO.out]
    exact ⟨_, rfl, rows_of_own (hro.kept hgp (own_free hro hrp)) (RowCsO.plain (hrc.kept fun _ _ _ h1 => h1.kept hgp (own_free h1 hrp)))⟩
  case stop =>
    rintro D c' pre W hD ⟨k, hk⟩ ⟨⟨rfl, z, hfo, hM⟩, hB⟩ hK
    gi_wp2
    refine ⟨by simp, .inl ⟨_, _, rfl, run_takeDeferred hK, ?_⟩⟩
    have hM' := hM.kept (grownBy_putObj' _ D (.deferred none)) (fun r e => by cases e; exact ⟨_, hK, rfl⟩)
    refine ⟨_, rows2_results hM'.b0 hM'.b1 rfl _ rfl rfl, ?_, hB.trans (belowK_b (w := w) (Nat.le_refl _) _ D _ _ (by omega) hK rfl rfl)⟩
    have hn : rowsL l = .inl z := by rw [hRL.out, ← hk]; exact foldR_bad hfo
    rw [hn]
    rfl
theorem rows_any (l : List UInt8) (hl : l.length < 900000) (w : World) (hT : VT w) :
    Calls Tryd.prog 11 #[.string ⟨l.toArray⟩] w fun e w' => RowsPost (rowsL l) e w' ∧ Below w.heap.size w w' := by
  by_cases h : 20000 < l.length
  · have d0 : decide ((20000 : Int) < (l.length : Int)) = true := decide_eq_true (by omega)
    have d0n : decide (20000 < l.length) = true := decide_eq_true h
    have hR : rowsL l = .inl (4, 20000) := by unfold rowsL; rw [if_pos h]
    rw [hR]
    refine (callsIn_wide (n := 3)).1 ?_
    refine callsIn_of_wp_marks Tryd.func11 rfl trivial ?_ rfl
    simp only [Tryd.ntmps11, List.size_toArray, List.length_cons, List.length_nil, Nat.reduceAdd, Nat.reduceSub, Array.replicate_succ, Array.replicate_zero, List.push_toArray, List.append_toArray, List.nil_append, List.cons_append]
    gi_wp2_with fail
    have b0 : CBlk 23 ((w.alloc (.cells #[.slice none 0 0] 23)).alloc (.cells #[.int .i64 4, .int .i64 20000] 26)) w.heap.size [.slice none 0 0] := (CBlk.new 23 w [.slice none 0 0]).alloc _
    have b1 : CBlk 26 ((w.alloc (.cells #[.slice none 0 0] 23)).alloc (.cells #[.int .i64 4, .int .i64 20000] 26)) (w.heap.size + 1) [.int .i64 4, .int .i64 20000] := by
      have := CBlk.new 26 (w.alloc (.cells #[.slice none 0 0] 23)) [.int .i64 4, .int .i64 20000]
      rw [World.size_alloc] at this
      exact this
    exact ⟨_, rows2_results b0 b1 rfl _ rfl rfl, rfl, by go_grown⟩
  · exact rows_small l h w hT
end Go.Proofs.YtacceiloggnekaaDoor
