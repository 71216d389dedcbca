/-
  The program's Normal, for texts shorter than 100000 bytes. The library's variable of the search must hold a number.
  The program's segments, for texts shorter than 90000 bytes.
  The program's Clean, for texts shorter than 40000 bytes.
-/
import Derived.Test.YtjinedeelkdgiaaDoorHDProg1
import Derived.Test.YtjinedeelkdgiaaDoorHDPure
import Derived.BigRegionIn
import Derived.Test.YtjinedeelkdgiaaDoorHGDRef4
namespace Go.Proofs.YtjinedeelkdgiaaDoor
open Go.RowKit Go.Shelf
attribute [local go_sem] Oper.semAt_some
theorem res1 {t : TypeId} {w : World} {B : Nat} {v : Value} (h1 : CBlk t w B [v]) {fn : Func} {p : Tmp} (h : fn.results = #[.cell p t]) (tmps : Array Value)
    (hp : tmps.getD p undef = .pointer (some ⟨B, 0, none⟩)) (ht : ∀ w, (isAgg t).run Tryd.prog w = .ok false w) : (Go.results fn tmps).run Tryd.prog w = .ok v w := by
  have hp' : tmps[p]?.getD undef = .pointer (some ⟨B, 0, none⟩) := by simpa using hp
  have c0 := h1.cell1
  simp [Go.results, h, hp', asAddr, go_sem, c0, ht]
/-- A world with nothing but a cell of it written. -/
theorem ka_set {b C : Nat} {W : World} (h : C < b) (i : Nat) (v : Value) : KA b W (W.setCell ⟨C, i, none⟩ v) :=
  ⟨by simp, Below.heap_setCell _ _ _ _ (by show b ≠ C; omega), Below.heap_setCell _ _ _ _ (by show b + 1 ≠ C; omega), Below.heap_setCell _ _ _ _ (by show b + 2 ≠ C; omega)⟩
theorem kb_set {N C : Nat} {W : World} (h : C < N) (i : Nat) (v : Value) : KB N W (W.setCell ⟨C, i, none⟩ v) :=
  ⟨by simp, Below.heap_setCell _ _ _ _ (by show N ≠ C; omega), Below.heap_setCell _ _ _ _ (by show N + 1 ≠ C; omega)⟩
theorem KA.refl (b : Nat) (W : World) : KA b W W := ⟨Nat.le_refl _, rfl, rfl, rfl⟩
theorem KB.refl (b : Nat) (W : World) : KB b W W := ⟨Nat.le_refl _, rfl, rfl⟩
/-- Memory of Normal: its result. -/
structure NM (w W : World) (r : Bool) : Prop where
  b0 : CBlk 4 W w.heap.size [.bool r]
  bel : Below w.heap.size w W
theorem NM.kept {w W W' : World} {r : Bool} (h : NM w W r) {k : Nat} (hg : W.grownBy W' (some k)) (hk : w.heap.size < k) : NM w W' r :=
  ⟨h.b0.kept hg (fun e => by injection e; omega), below_grownR h.bel h.bel.size hg (fun r hr => by injection hr; omega)⟩
set_option maxRecDepth 100000 in
set_option maxHeartbeats 8000000 in
theorem normal_any (p : List UInt8) (hl : p.length < 100000) (w : World) (hM : ML w) :
    Calls Tryd.prog 36 #[.string ⟨p.toArray⟩] w fun e w' => e = .returned (.bool (normB p)) ∧ Below w.heap.size w w' := by
  have hN := norm_eq p
  obtain ⟨W0, hW0⟩ : ∃ W0, w.alloc (.cells #[.bool false] 4) = W0 := ⟨_, rfl⟩
  have b0 : CBlk 4 W0 w.heap.size [.bool false] := by rw [← hW0]; exact CBlk.new _ w _
  have hB0 : Below w.heap.size w W0 := by rw [← hW0]; exact (Below.refl _ _).alloc (Nat.le_refl _) _
  have hM0 : ML W0 := hM.below hB0
  have hs0 : W0.heap.size = w.heap.size + 1 := by rw [← hW0]; simp
  have HB0 := Lib.hid b0
  have HB := Lib.hid hB0
  have HM0 := Lib.hid hM0
  have HS0 := Lib.hid hs0
  have f0 := b0.free 0
  have c0 := b0.cell1
  clear b0 hB0 hM0 hs0 hM
  by_cases h1 : 128 < p.length
  · have d1 : decide ((128 : Int) < (p.length : Int)) = true := decide_eq_true (by omega)
    have d1n : decide (128 < p.length) = true := decide_eq_true h1
    have HR : Hid (normB p = false) := Lib.hid (by rw [hN, decide_eq_false (by omega)]; rfl)
    clear hN h1
    refine (callsIn_wide (n := 5)).1 ?_
    refine callsIn_of_wp_marks Tryd.func36 rfl trivial ?_ rfl
    simp only [Tryd.ntmps36, List.size_toArray, List.length_cons, List.length_nil, Nat.reduceAdd, Nat.reduceSub, Array.replicate_succ, Array.replicate_zero, List.push_toArray, List.append_toArray, List.nil_append, List.cons_append]
    gi_upto_region 1 with fail
    clear hW0
    gi_wp2_with fail
    refine ⟨trivial, ?_⟩
    gi_wp2_with fail
    refine ⟨trivial, ?_⟩
    gi_wp2_with fail
    exact ⟨_, res1 (HB0.out.set 0 (.bool false)) rfl _ rfl Tryd.isAgg4, by rw [HR.out], HB.out.setCell (p := ⟨w.heap.size, 0, none⟩) (Nat.le_refl _) _⟩
  · have d1 : decide ((128 : Int) < (p.length : Int)) = false := decide_eq_false (by omega)
    have d1n : decide (128 < p.length) = false := decide_eq_false h1
    rw [decide_eq_true (by omega), Bool.true_and] at hN
    obtain ⟨q, hq⟩ : ∃ q, pathB p = q := ⟨_, rfl⟩
    rw [hq] at hN
    have HQ := Lib.hid hq
    cases q with
    | false =>
      have HR : Hid (normB p = false) := Lib.hid hN
      clear hN h1 hq
      refine (callsIn_wide (n := 5)).1 ?_
      refine callsIn_of_wp_marks Tryd.func36 rfl trivial ?_ rfl
      simp only [Tryd.ntmps36, List.size_toArray, List.length_cons, List.length_nil, Nat.reduceAdd, Nat.reduceSub, Array.replicate_succ, Array.replicate_zero, List.push_toArray, List.append_toArray, List.nil_append, List.cons_append]
      gi_upto_region 1 with fail
      clear hW0
      gi_wp2_with fail
      refine ⟨trivial, ?_⟩
      refine (callsIn_wide.2 (isPath_any p _)).mono ?_
      rintro e w' ⟨rfl, rfl⟩
      rw [HQ.out]
      gi_wp2_with fail
      refine ⟨trivial, ?_⟩
      gi_wp2_with fail
      exact ⟨_, res1 (HB0.out.set 0 (.bool false)) rfl _ rfl Tryd.isAgg4, by rw [HR.out], HB.out.setCell (p := ⟨w.heap.size, 0, none⟩) (Nat.le_refl _) _⟩
    | true =>
      have hp0 : 0 < p.length := by
        cases p with
        | nil => simp [pathB] at hq
        | cons c r => simp
      rw [Bool.true_and] at hN
      obtain ⟨c, hc⟩ : ∃ c, Lib.contains p [47, 47] = c := ⟨_, rfl⟩
      have HC := Lib.hid hc
      rw [hc] at hN
      cases c with
      | true =>
        have HR : Hid (normB p = false) := Lib.hid hN
        clear hN h1 hq hc
        refine (callsIn_wide (n := 5)).1 ?_
        refine callsIn_of_wp_marks Tryd.func36 rfl trivial ?_ rfl
        simp only [Tryd.ntmps36, List.size_toArray, List.length_cons, List.length_nil, Nat.reduceAdd, Nat.reduceSub, Array.replicate_succ, Array.replicate_zero, List.push_toArray, List.append_toArray, List.nil_append, List.cons_append]
        gi_upto_region 1 with fail
        clear hW0
        gi_wp2_with fail
        refine ⟨trivial, ?_⟩
        refine (callsIn_wide.2 (isPath_any p _)).mono ?_
        rintro e w' ⟨rfl, rfl⟩
        rw [HQ.out]
        gi_wp2_with fail
        refine ⟨trivial, ?_⟩
        refine (callsIn_wide.2 (contains2_any p (by omega) _ HM0.out)).mono ?_
        rintro e w' ⟨rfl, rfl⟩
        rw [HC.out]
        gi_wp2_with fail
        exact ⟨_, res1 (HB0.out.set 0 (.bool false)) rfl _ rfl Tryd.isAgg4, by rw [HR.out], HB.out.setCell (p := ⟨w.heap.size, 0, none⟩) (Nat.le_refl _) _⟩
      | false =>
        have HR : Hid (normB p = (piecesL p).all fun x => !dotB x) := Lib.hid (by rw [hN]; rfl)
        clear hN h1 hq hc
        have hpd : (p.drop 1).length < 100000 := by rw [List.length_drop]; omega
        have HP : Hid (piecesL p = cutS [] (p.drop 1)) := Lib.hid rfl
        have hparts := fun W => parts_any p hp0 (by omega) W
        obtain ⟨X, hX⟩ : ∃ X, p.drop 1 = X := ⟨_, rfl⟩
        rw [hX] at hpd HP hparts
        have HPARTS := Lib.hid hparts
        clear hX hparts hp0
        refine (callsIn_wide (n := 5)).1 ?_
        refine callsIn_of_wp_marks Tryd.func36 rfl trivial ?_ rfl
        simp only [Tryd.ntmps36, List.size_toArray, List.length_cons, List.length_nil, Nat.reduceAdd, Nat.reduceSub, Array.replicate_succ, Array.replicate_zero, List.push_toArray, List.append_toArray, List.nil_append, List.cons_append]
        gi_upto_region 1 with fail
        clear hW0
        gi_wp2_with fail
        refine ⟨trivial, ?_⟩
        refine (callsIn_wide.2 (isPath_any p _)).mono ?_
        rintro e w' ⟨rfl, rfl⟩
        rw [HQ.out]
        gi_wp2_with fail
        refine ⟨trivial, ?_⟩
        refine (callsIn_wide.2 (contains2_any p (by omega) _ HM0.out)).mono ?_
        rintro e w' ⟨rfl, rfl⟩
        rw [HC.out]
        gi_wp2_with fail
        refine ⟨trivial, ?_⟩
        refine (callsIn_wide.2 (HPARTS.out _)).mono ?_
        rintro e w' ⟨rfl, rfl⟩
        generalize hW4 : ((W0.alloc (.cells #[.string ⟨X.toArray⟩] 9)).alloc (.cells #[.string ⟨#[47]⟩] 9)).alloc (.cells #[.int .i64 0] 3) = W4
        have hgN : W0.grownBy W4 none := by rw [← hW4]; exact gr_alloc (gr_alloc (gr_alloc (World.grownBy.refl _ _) _) _) _
        have hsz4 : W4.heap.size = W0.heap.size + 3 := by rw [← hW4]; simp
        have s0 : CBlk 9 W4 W0.heap.size [.string ⟨X.toArray⟩] := by rw [← hW4]; exact ((CBlk.new _ W0 _).alloc _).alloc _
        have s1 : CBlk 9 W4 (W0.heap.size + 1) [.string ⟨#[47]⟩] := by
          rw [← hW4]
          have := (CBlk.new 9 (W0.alloc (.cells #[.string ⟨X.toArray⟩] 9)) [.string ⟨#[47]⟩]).alloc (.cells #[.int .i64 0] 3)
          simpa using this
        have s2 : CBlk 3 W4 (W0.heap.size + 2) [.int .i64 0] := by
          rw [← hW4]
          have := CBlk.new 3 ((W0.alloc (.cells #[.string ⟨X.toArray⟩] 9)).alloc (.cells #[.string ⟨#[47]⟩] 9)) [.int .i64 0]
          simpa using this
        have hF4 : NM w W4 false := ⟨HB0.out.kept hgN (by simp), below_grownR HB.out HB.out.size hgN (fun k e => by cases e)⟩
        have HSZ4 := Lib.hid hsz4
        clear hW4 hgN HB0 HB f0 c0 hsz4
        gi_wp2_with fail
        have hs0 := HS0.out
        have hsz4 := HSZ4.out
        refine rangeS (by omega) W0.heap.size X hpd rfl rfl s0 s1 s2
          (fun pre W => NM w W false ∧ (pre.all fun x => !dotB x) = true) (fun pre W => NM w W false ∧ (pre.all fun x => !dotB x) = false)
          ?hIB ?hIL ?hXL ⟨hF4, rfl⟩ ?round ?done ?stop
        case hIB => exact fun pre W W' h hg => ⟨h.1.kept hg (by omega), h.2⟩
        case hIL => exact fun pre W W' h hg => ⟨h.1.kept hg (by omega), h.2⟩
        case hXL => exact fun pre W W' h hg => ⟨h.1.kept hg (by omega), h.2⟩
        case round =>
          clear s0 s1 s2 hF4
          rintro pre x W ⟨hF, hall⟩ hpl hxl hsz
          unfold encX
          gi_wp2
          refine ⟨World.grownBy.refl _ _, ?_⟩
          intro W5 hg5
          have hF5 := hF.kept hg5 (by omega)
          have c0 := hF5.b0.cell1
          have f0 := hF5.b0.free 0
          obtain ⟨d, hd⟩ : ∃ d, dotB x = d := ⟨_, rfl⟩
          have HD := Lib.hid hd
          have hall2 : ((pre ++ [x]).all fun x => !dotB x) = !d := by rw [List.all_append, hall]; simp [hd]
          have HALL := Lib.hid hall2
          have HF5 := Lib.hid hF5
          clear hF hall hall2 hd hF5
          gi_wp2_with fail
          refine ⟨trivial, ?_⟩
          refine (CallsIn.inRound _ (callsIn_wide.2 (isDots_any x _))).mono ?_
          rintro e w' ⟨rfl, rfl⟩
          rw [HD.out]
          cases d with
          | true =>
            gi_wp2_with fail
            exact ⟨kb_set (by omega) _ _, ka_set (by omega) _ _, ⟨HF5.out.b0.set 0 _, HF5.out.bel.setCell (p := ⟨w.heap.size, 0, none⟩) (Nat.le_refl _) _⟩, HALL.out⟩
          | false =>
            gi_wp2_with fail
            exact ⟨KB.refl _ _, KA.refl _ _, HF5.out, HALL.out⟩
        case done =>
          clear s0 s1 s2 hF4
          rintro W' ⟨hF, hall⟩ hD
          have c0 := hF.b0.cell1
          have f0 := hF.b0.free 0
          have HF := Lib.hid hF
          have HD := Lib.hid hD
          have HN : Hid (normB p = true) := Lib.hid (by rw [HR.out, HP.out]; exact hall)
          clear hF hD hall
          gi_wp2_with fail
          have hb1 := HF.out.b0.set 0 (.bool true)
          have hB1 := HF.out.bel.setCell (p := ⟨w.heap.size, 0, none⟩) (Nat.le_refl _) (.bool true)
          have hD1 : (W'.setCell ⟨w.heap.size, 0, none⟩ (.bool true)).heap[W4.heap.size]? = some (.deferred (some [])) := (Below.heap_setCell _ _ _ _ (by show W4.heap.size ≠ w.heap.size; omega)).trans HD.out
          have hgp := grownBy_putObj' (W'.setCell ⟨w.heap.size, 0, none⟩ (.bool true)) W4.heap.size (.deferred none)
          refine ⟨by simp, .inl ⟨_, _, rfl, run_takeDeferred hD1, ?_⟩⟩
          refine ⟨_, res1 (hb1.kept hgp (fun e => by injection e; omega)) rfl _ rfl Tryd.isAgg4, HN.out ▸ rfl, below_grownR hB1 hB1.size hgp (fun r hr => by injection hr; omega)⟩
        case stop =>
          clear s0 s1 s2 hF4
          rintro W' pre x rest hpr ⟨hF, hall⟩ hD
          have HN : Hid (normB p = false) := Lib.hid (by
            rw [HR.out, HP.out, ← hpr, show pre ++ x :: rest = (pre ++ [x]) ++ rest by simp, List.all_append, hall]
            rfl)
          gi_wp2
          have hgp := grownBy_putObj' W' W4.heap.size (.deferred none)
          refine ⟨by simp, .inl ⟨_, _, rfl, run_takeDeferred hD, ?_⟩⟩
          exact ⟨_, res1 (hF.b0.kept hgp (fun e => by injection e; omega)) rfl _ rfl Tryd.isAgg4, HN.out ▸ rfl, below_grownR hF.bel hF.bel.size hgp (fun r hr => by injection hr; omega)⟩
end Go.Proofs.YtjinedeelkdgiaaDoor
namespace Go.Proofs.YtjinedeelkdgiaaDoor
open Go.RowKit Go.Shelf
attribute [local go_sem] Oper.semAt_some
theorem own_mono {w : World} {base base' : Nat} {e : TypeId} {size n : Nat} {v : Value} {xs : List Value} (h : w.ownsRow base e size v n xs) (hb : base' ≤ base) : w.ownsRow base' e size v n xs :=
  ⟨h.1, h.2.imp id fun ⟨g, cap, cur, e1, hg, r⟩ => ⟨g, cap, cur, e1, Nat.le_trans hb hg, r⟩⟩
/-- append at a slice of one's own, at its operation, inside a fence. -/
theorem stepIn_append_own {F : Fence} {n : Nat} {P : Program} (w : World) {ops : Array Oper} {o : Oper} {a : Act} {K : Act → World → Prop} {Q : Exit → Act → World → Prop} {E : Prop}
    (hg : o.guard = none) (s x : Operand) (t : TypeId) (hop : o.op = Op.call { callee := Callee.builtin Builtin.append, args := #[s, x], argTypes := #[t, t] })
    (base : Nat) (e : TypeId) (i : TypeInfo) (z : Value) (size bytes : Nat) (h1 : P.underlying t = some (.slice e)) (h2 : P.info? e = some i) (h3 : i.zero = some z) (h4 : i.size = size) (h5 : i.bytes = bytes) (h6 : z.cells.size = size) (h7 : 0 < size)
    (v : Value) (k : Nat) (xs : List Value) (hs : a.eval s = v) (hown : w.ownsRow base e size v k xs) (ad : Addr) (m c : Nat) (news : List Value) (hx : a.eval x = .slice (some ad) m c) (hn : news.length = m * size)
    (hc : ∀ j u, news[j]? = some u → w.cell? (ad.add j) = some u) (h1c : ∀ u ∈ news, u.oneCell' = true) (hm : 0 < m) (b1 : k + m ≤ maxLen) (b2 : (k + m) * bytes ≤ 140737488355328) (b3 : base ≤ w.heap.size)
    (hK : ∀ g cap w', w'.ownsRow base e size (.slice (some ⟨g, 0, none⟩) (k + m) cap) (k + m) (xs ++ news) → w.grownBy w' v.ownBlock → K (a.put o.dst (.slice (some ⟨g, 0, none⟩) (k + m) cap)) w') :
    if Region.wanted o (yielded ops a.tmps) = true then Oper.wpIn F n P o a w K Q else E := by
  have hw : Region.wanted o (yielded ops a.tmps) = true := by simp [Region.wanted, hg]
  rw [if_pos hw]
  obtain ⟨v', w', hrun, r1, r2, r3⟩ := run_append_own (P := P) w base t o.type e i z size bytes h1 h2 h3 h4 h5 h6 h7 v k xs hown ad m c news hn hc h1c b1 b2 b3
  obtain ⟨g, cap, rfl, -, -⟩ := r1.form (by omega)
  unfold Oper.wpIn
  refine ⟨?_, ?_⟩
  · simp [Oper.about, hop, resolve, Target.leads, Sem.run_pure]
  · rw [Oper.semAt_plain F _ _ (by rw [hop]; intro c hc'; cases hc')]
    simp [execOp, hop, resolve, invoke, builtin, hs, hx, hrun, Result.andThen]
    exact hK g cap w' r1 r2
/-- The pieces that are not empty. -/
def neL (L : List (List UInt8)) : List (List UInt8) := L.filter fun x => !(x == [])
theorem neL_snoc (pre : List (List UInt8)) (x : List UInt8) : neL (pre ++ [x]) = neL pre ++ if x.isEmpty = true then [] else [x] := by
  unfold neL
  rw [List.filter_append]
  cases x <;> simp
theorem neL_len (L : List (List UInt8)) : (neL L).length ≤ L.length := List.length_filter_le _ _
/-- Memory of segments: its list. -/
structure SM (w w4 W : World) (v : Value) (K : List (List UInt8)) : Prop where
  b0 : CBlk 76 W w.heap.size [v]
  row : W.ownsRow (w4.heap.size + 2) 9 1 v K.length (K.map strW)
  bel : Below w.heap.size w W
  sz : w4.heap.size ≤ W.heap.size
theorem SM.kept {w w4 W W' : World} {v : Value} {K : List (List UInt8)} (h : SM w w4 W v K) {k : Nat} (hg : W.grownBy W' (some k)) (hk : w.heap.size < k) (hk2 : k < w4.heap.size + 2) : SM w w4 W' v K :=
  ⟨h.b0.kept hg (fun e => by injection e; omega), h.row.kept hg (.inr (fun e => by have := (h.row.lt k e).1; omega)), below_grownR h.bel h.bel.size hg (fun r hr => by injection hr; omega), Nat.le_trans h.sz hg.size⟩
theorem SM.below {w w4 W W' : World} {v : Value} {K : List (List UInt8)} (h : SM w w4 W v K) (hb : Below W.heap.size W W') : SM w w4 W' v K :=
  ⟨h.b0.below hb h.b0.lt, own_belowR h.row hb, h.bel.trans (hb.mono h.bel.size), Nat.le_trans h.sz hb.size⟩
end Go.Proofs.YtjinedeelkdgiaaDoor
namespace Go.Proofs.YtjinedeelkdgiaaDoor
open Go.RowKit Go.Shelf
attribute [local go_sem] Oper.semAt_some
theorem res2 {t u : TypeId} {w : World} {B C : Nat} {v x : Value} (h1 : CBlk t w B [v]) (h2 : CBlk u w C [x]) {fn : Func} {p q : Tmp} (h : fn.results = #[.cell p t, .cell q u]) (tmps : Array Value)
    (hp : tmps.getD p undef = .pointer (some ⟨B, 0, none⟩)) (hq : tmps.getD q undef = .pointer (some ⟨C, 0, none⟩)) (ht : ∀ w, (isAgg t).run Tryd.prog w = .ok false w) (hu : ∀ w, (isAgg u).run Tryd.prog w = .ok false w) : (Go.results fn tmps).run Tryd.prog w = .ok (.tuple #[v, x]) w := by
  have hp' : tmps[p]?.getD undef = .pointer (some ⟨B, 0, none⟩) := by simpa using hp
  have hq' : tmps[q]?.getD undef = .pointer (some ⟨C, 0, none⟩) := by simpa using hq
  have c0 := h1.cell1
  have c1 := h2.cell1
  simp [Go.results, h, hp', hq', asAddr, go_sem, c0, c1, ht, hu]
/-- What pieces come to so far. -/
def Fold (pre K : List (List UInt8)) (o : Bool) : Prop := ∀ rest, clnF (pre ++ rest) [] false = clnF rest K o
def FoldX (pre : List (List UInt8)) : Prop := ∀ rest, clnF (pre ++ rest) [] false = none
theorem Fold.dots {pre K : List (List UInt8)} {o : Bool} {x : List UInt8} (h : Fold pre K o) (hx : (x == [46, 46]) = true) (hK : K ≠ []) : Fold (pre ++ [x]) K.dropLast true := fun rest => by
  rw [List.append_assoc, h, List.singleton_append, clnF_dots hx, if_neg hK]
theorem Fold.up {pre K : List (List UInt8)} {o : Bool} {x : List UInt8} (h : Fold pre K o) (hx : (x == [46, 46]) = true) (hK : K = []) : FoldX (pre ++ [x]) := fun rest => by
  rw [List.append_assoc, h, List.singleton_append, clnF_dots hx, if_pos hK]
theorem Fold.drop {pre K : List (List UInt8)} {o : Bool} {x : List UInt8} (h : Fold pre K o) (hx : (x == [46, 46]) = false) (hx2 : ((x == []) || (x == [46])) = true) : Fold (pre ++ [x]) K true := fun rest => by
  rw [List.append_assoc, h, List.singleton_append, clnF_drop hx hx2]
theorem Fold.keep {pre K : List (List UInt8)} {o : Bool} {x : List UInt8} (h : Fold pre K o) (hx : (x == [46, 46]) = false) (hx2 : ((x == []) || (x == [46])) = false) : Fold (pre ++ [x]) (K ++ [x]) false := fun rest => by
  rw [List.append_assoc, h, List.singleton_append, clnF_keep hx hx2]
/-- Memory of Clean: its results, what is kept, whether the path ends open. -/
structure CM (w w4 W : World) (e : Int) (v : Value) (K : List (List UInt8)) (o : Bool) : Prop where
  b0 : CBlk 9 W w.heap.size [.string ⟨#[]⟩]
  b1 : CBlk 23 W (w.heap.size + 1) [.int .i64 e]
  b2 : CBlk 76 W (w.heap.size + 1 + 1) [v]
  b3 : CBlk 4 W (w.heap.size + 1 + 1 + 1) [.bool o]
  row : W.ownsRow (w4.heap.size + 2) 9 1 v K.length (K.map strW)
  bel : Below w.heap.size w W
  sz : w4.heap.size ≤ W.heap.size
theorem CM.kept {w w4 W W' : World} {e : Int} {v : Value} {K : List (List UInt8)} {o : Bool} (h : CM w w4 W e v K o) {k : Nat} (hg : W.grownBy W' (some k)) (hk : w.heap.size + 1 + 1 + 1 < k) (hk2 : k < w4.heap.size + 2) : CM w w4 W' e v K o :=
  ⟨h.b0.kept hg (fun e => by injection e; omega), h.b1.kept hg (fun e => by injection e; omega), h.b2.kept hg (fun e => by injection e; omega), h.b3.kept hg (fun e => by injection e; omega),
    h.row.kept hg (.inr (fun e => by have := (h.row.lt k e).1; omega)), below_grownR h.bel h.bel.size hg (fun r hr => by injection hr; omega), Nat.le_trans h.sz hg.size⟩
theorem CM.opened {w w4 W : World} {e : Int} {v : Value} {K : List (List UInt8)} {o : Bool} (h : CM w w4 W e v K o) (hs : w.heap.size + 7 ≤ w4.heap.size) (o2 : Bool) : CM w w4 (W.setCell ⟨w.heap.size + 1 + 1 + 1, 0, none⟩ (.bool o2)) e v K o2 :=
  ⟨h.b0.other _ (by show w.heap.size + 1 + 1 + 1 ≠ _; omega) _, h.b1.other _ (by show w.heap.size + 1 + 1 + 1 ≠ _; omega) _, h.b2.other _ (by show w.heap.size + 1 + 1 + 1 ≠ _; omega) _, h.b3.set 0 _,
    ownsRow_setCell_below h.row (a := ⟨w.heap.size + 1 + 1 + 1, 0, none⟩) (by show w.heap.size + 1 + 1 + 1 < _; omega) _, h.bel.setCell (p := ⟨w.heap.size + 1 + 1 + 1, 0, none⟩) (by show _ ≤ w.heap.size + 1 + 1 + 1; omega) _, by simpa using h.sz⟩
theorem CM.listed {w w4 W : World} {e : Int} {v v2 : Value} {K K2 : List (List UInt8)} {o : Bool} (h : CM w w4 W e v K o) (hs : w.heap.size + 7 ≤ w4.heap.size) (hr : W.ownsRow (w4.heap.size + 2) 9 1 v2 K2.length (K2.map strW)) : CM w w4 (W.setCell ⟨w.heap.size + 1 + 1, 0, none⟩ v2) e v2 K2 o :=
  ⟨h.b0.other _ (by show w.heap.size + 1 + 1 ≠ _; omega) _, h.b1.other _ (by show w.heap.size + 1 + 1 ≠ _; omega) _, h.b2.set 0 _, h.b3.other _ (by show w.heap.size + 1 + 1 ≠ _; omega) _,
    ownsRow_setCell_below hr (a := ⟨w.heap.size + 1 + 1, 0, none⟩) (by show w.heap.size + 1 + 1 < _; omega) _, h.bel.setCell (p := ⟨w.heap.size + 1 + 1, 0, none⟩) (by show _ ≤ w.heap.size + 1 + 1; omega) _, by simpa using h.sz⟩
theorem KB.trans {N : Nat} {X Y Z : World} (h : KB N X Y) (k : KB N Y Z) : KB N X Z := ⟨Nat.le_trans h.1 k.1, k.2.1.trans h.2.1, k.2.2.trans h.2.2⟩
theorem both_set {N b C : Nat} {X W : World} (h : KB N X W ∧ KA b X W) (h1 : C < N) (h2 : C < b) (v : Value) : KB N X (W.setCell ⟨C, 0, none⟩ v) ∧ KA b X (W.setCell ⟨C, 0, none⟩ v) :=
  ⟨h.1.trans (kb_set h1 _ _), h.2.trans (ka_set h2 _ _)⟩
set_option maxRecDepth 100000 in
set_option maxHeartbeats 8000000 in
theorem clean_any (p : List UInt8) (hl : p.length < 40000) (w : World) :
    Calls Tryd.prog 85 #[.string ⟨p.toArray⟩] w fun e w' => e = .returned (strR (cleanR p)) ∧ Below w.heap.size w w' := by
  obtain ⟨i0, hi, hz0, hz1, hz2⟩ := info_parts infoS4
  obtain ⟨q, hq⟩ : ∃ q, pathB p = q := ⟨_, rfl⟩
  have HQ := Lib.hid hq
  cases q with
  | false =>
    have HR : Hid (cleanR p = .inl 3) := Lib.hid (by unfold cleanR; rw [hq]; rfl)
    clear hq
    refine (callsIn_wide (n := 5)).1 ?_
    refine callsIn_of_wp_marks Tryd.func85 rfl trivial ?_ rfl
    simp only [Tryd.ntmps85, List.size_toArray, List.length_cons, List.length_nil, Nat.reduceAdd, Nat.reduceSub, Array.replicate_succ, Array.replicate_zero, List.push_toArray, List.append_toArray, List.nil_append, List.cons_append]
    gi_wp2_with fail
    refine ⟨trivial, ?_⟩
    refine (callsIn_wide.2 (isPath_any p _)).mono ?_
    rintro e w' ⟨rfl, rfl⟩
    rw [HQ.out]
    gi_wp2_with fail
    have b0 : CBlk 9 ((w.alloc (.cells #[.string ⟨#[]⟩] 9)).alloc (.cells #[.int .i64 3] 23)) w.heap.size [.string ⟨#[]⟩] := (CBlk.new _ w _).alloc _
    have b1 : CBlk 23 ((w.alloc (.cells #[.string ⟨#[]⟩] 9)).alloc (.cells #[.int .i64 3] 23)) (w.heap.size + 1) [.int .i64 3] := by
      have := CBlk.new 23 (w.alloc (.cells #[.string ⟨#[]⟩] 9)) [.int .i64 3]
      rw [World.size_alloc] at this
      exact this
    exact ⟨_, res2 b0 b1 rfl _ rfl rfl Tryd.isAgg9 Tryd.isAgg23, HR.out ▸ rfl, by go_grown⟩
  | true =>
    have hp0 : 0 < p.length := by
      cases p with
      | nil => simp [pathB] at hq
      | cons c r => simp
    have hR : cleanR p = endC (clnF (cutS [] (p.drop 1)) [] false) := by unfold cleanR; rw [hq]; rfl
    obtain ⟨W0, hW0⟩ : ∃ W0, (((w.alloc (.cells #[.string ⟨#[]⟩] 9)).alloc (.cells #[.int .i64 0] 23)).alloc (.cells #[.slice none 0 0] 76)).alloc (.cells #[.bool false] 4) = W0 := ⟨_, rfl⟩
    have b0 : CBlk 9 W0 w.heap.size [.string ⟨#[]⟩] := by rw [← hW0]; exact (((CBlk.new _ w _).alloc _).alloc _).alloc _
    have b1 : CBlk 23 W0 (w.heap.size + 1) [.int .i64 0] := by
      rw [← hW0]
      have := ((CBlk.new 23 (w.alloc (.cells #[.string ⟨#[]⟩] 9)) [.int .i64 0]).alloc (.cells #[.slice none 0 0] 76)).alloc (.cells #[.bool false] 4)
      simpa using this
    have b2 : CBlk 76 W0 (w.heap.size + 1 + 1) [.slice none 0 0] := by
      rw [← hW0]
      have := (CBlk.new 76 ((w.alloc (.cells #[.string ⟨#[]⟩] 9)).alloc (.cells #[.int .i64 0] 23)) [.slice none 0 0]).alloc (.cells #[.bool false] 4)
      simpa using this
    have b3 : CBlk 4 W0 (w.heap.size + 1 + 1 + 1) [.bool false] := by
      rw [← hW0]
      have := CBlk.new 4 (((w.alloc (.cells #[.string ⟨#[]⟩] 9)).alloc (.cells #[.int .i64 0] 23)).alloc (.cells #[.slice none 0 0] 76)) [.bool false]
      simpa using this
    have hB0 : Below w.heap.size w W0 := by rw [← hW0]; go_grown
    have hs0 : W0.heap.size = w.heap.size + 4 := by rw [← hW0]; simp
    have HB0 := Lib.hid b0
    have HB1 := Lib.hid b1
    have HB2 := Lib.hid b2
    have HB3 := Lib.hid b3
    have HB := Lib.hid hB0
    have HS0 := Lib.hid hs0
    have hpd : (p.drop 1).length < 40000 := by rw [List.length_drop]; omega
    have hparts := fun W => parts_any p hp0 (by omega) W
    obtain ⟨X, hX⟩ : ∃ X, p.drop 1 = X := ⟨_, rfl⟩
    rw [hX] at hpd hparts hR
    have HPARTS := Lib.hid hparts
    have HR := Lib.hid hR
    have HW0 := Lib.hid hW0
    clear hX hparts hp0 b0 b1 b2 b3 hB0 hs0 hR hq hW0
    refine (callsIn_wide (n := 5)).1 ?_
    refine callsIn_of_wp_marks Tryd.func85 rfl trivial ?_ rfl
    simp only [Tryd.ntmps85, List.size_toArray, List.length_cons, List.length_nil, Nat.reduceAdd, Nat.reduceSub, Array.replicate_succ, Array.replicate_zero, List.push_toArray, List.append_toArray, List.nil_append, List.cons_append]
    gi_wp2_with fail
    refine ⟨trivial, ?_⟩
    refine (callsIn_wide.2 (isPath_any p _)).mono ?_
    rintro e w' ⟨rfl, rfl⟩
    rw [HQ.out]
    gi_upto_region 5 with fail
    rw [HW0.out]
    clear HW0
    gi_wp2_with fail
    refine ⟨trivial, ?_⟩
    refine (callsIn_wide.2 (HPARTS.out _)).mono ?_
    rintro e w' ⟨rfl, rfl⟩
    generalize hW4 : ((W0.alloc (.cells #[.string ⟨X.toArray⟩] 9)).alloc (.cells #[.string ⟨#[47]⟩] 9)).alloc (.cells #[.int .i64 0] 3) = W4
    have hgN : W0.grownBy W4 none := by rw [← hW4]; exact gr_alloc (gr_alloc (gr_alloc (World.grownBy.refl _ _) _) _) _
    have hsz4 : W4.heap.size = W0.heap.size + 3 := by rw [← hW4]; simp
    have s0 : CBlk 9 W4 W0.heap.size [.string ⟨X.toArray⟩] := by rw [← hW4]; exact ((CBlk.new _ W0 _).alloc _).alloc _
    have s1 : CBlk 9 W4 (W0.heap.size + 1) [.string ⟨#[47]⟩] := by
      rw [← hW4]
      have := (CBlk.new 9 (W0.alloc (.cells #[.string ⟨X.toArray⟩] 9)) [.string ⟨#[47]⟩]).alloc (.cells #[.int .i64 0] 3)
      simpa using this
    have s2 : CBlk 3 W4 (W0.heap.size + 2) [.int .i64 0] := by
      rw [← hW4]
      have := CBlk.new 3 ((W0.alloc (.cells #[.string ⟨X.toArray⟩] 9)).alloc (.cells #[.string ⟨#[47]⟩] 9)) [.int .i64 0]
      simpa using this
    have hF4 : CM w W4 W4 0 (.slice none 0 0) [] false := ⟨HB0.out.kept hgN (by simp), HB1.out.kept hgN (by simp), HB2.out.kept hgN (by simp), HB3.out.kept hgN (by simp), World.ownsRow_nil _ _ _ _, below_grownR HB.out HB.out.size hgN (fun k e => by cases e), Nat.le_refl _⟩
    have HSZ4 := Lib.hid hsz4
    clear hW4 hgN HB0 HB1 HB2 HB3 HB hsz4
    gi_wp2_with fail
    have hs0 := HS0.out
    have hsz4 := HSZ4.out
    refine rangeS (by omega) W0.heap.size X (by omega) rfl rfl s0 s1 s2
      (fun pre W => ∃ v K o, CM w W4 W 0 v K o ∧ Fold pre K o ∧ K.length ≤ pre.length ∧ ∀ y ∈ K, y.length ≤ X.length) (fun pre W => ∃ v K o, CM w W4 W 18 v K o ∧ FoldX pre)
      ?hIB ?hIL ?hXL ⟨_, [], false, hF4, fun _ => rfl, Nat.le_refl _, fun y hy => by cases hy⟩ ?round ?done ?stop
    case hIB => exact fun pre W W' ⟨v, K, o, h, h2⟩ hg => ⟨v, K, o, h.kept hg (by omega) (by omega), h2⟩
    case hIL => exact fun pre W W' ⟨v, K, o, h, h2⟩ hg => ⟨v, K, o, h.kept hg (by omega) (by omega), h2⟩
    case hXL => exact fun pre W W' ⟨v, K, o, h, h2⟩ hg => ⟨v, K, o, h.kept hg (by omega) (by omega), h2⟩
    case round =>
      clear s0 s1 s2 hF4
      rintro pre x W ⟨v, K, o, hF, hfold, hlen, hmem⟩ hpl hxl hsz
      unfold encX
      gi_wp2
      refine ⟨World.grownBy.refl _ _, ?_⟩
      intro W5 hg5
      have hF5 := hF.kept hg5 (by omega) (by omega)
      have hsz5 : W.heap.size ≤ W5.heap.size := hg5.size
      obtain ⟨ov, oc, rfl⟩ := own_slice hF5.row
      have HF5 := Lib.hid hF5
      have HFOLD := Lib.hid hfold
      have HMEM := Lib.hid hmem
      have HKK : Hid (w.heap.size + 7 ≤ W4.heap.size) := Lib.hid (by omega)
      have HLEN : Hid (K.length ≤ (pre ++ [x]).length) := Lib.hid (by rw [List.length_append]; omega)
      have f3 := hF5.b3.free 0
      have c3 := hF5.b3.cell1
      -- behind the store of open
      have HST : Hid (∀ o2 : Bool, CM w W4 (W5.setCell ⟨w.heap.size + 1 + 1 + 1, 0, none⟩ (.bool o2)) 0 (.slice ov K.length oc) K o2 ∧ KB W4.heap.size W5 (W5.setCell ⟨w.heap.size + 1 + 1 + 1, 0, none⟩ (.bool o2)) ∧ KA W0.heap.size W5 (W5.setCell ⟨w.heap.size + 1 + 1 + 1, 0, none⟩ (.bool o2))) :=
        Lib.hid fun o2 => ⟨hF5.opened (by omega) o2, both_set ⟨KB.refl _ _, KA.refl _ _⟩ (by omega) (by omega) _⟩
      obtain ⟨a, ha⟩ : ∃ a, x.isEmpty = a := ⟨_, rfl⟩
      have ha2 : (x == []) = a := by rw [← ha]; cases x <;> rfl
      have HA2 := Lib.hid ha2
      clear hF hfold hmem hF5 hg5 ha2
      cases a with
      | true =>
        have hx0 : x = [] := by simpa using ha
        have HFO : Hid (Fold (pre ++ [x]) K true) := Lib.hid (HFOLD.out.drop (by rw [hx0]; rfl) (by rw [hx0]; rfl))
        have HE : Hid ((x == [46, 46]) = false) := Lib.hid (by rw [hx0]; rfl)
        clear hx0
        have he : (x == [46, 46]) = false := HE.out
        obtain ⟨hC, hKB, hKA⟩ := HST.out true
        have c4 := hC.b3.cell1
        have HC := Lib.hid hC
        have HKB := Lib.hid hKB
        have HKA := Lib.hid hKA
        clear hC hKB hKA hs0 hsz4
        gi_wp2_with fail
        refine ⟨trivial, ?_⟩
        gi_wp2_with fail
        exact ⟨HKB.out, HKA.out, .slice ov K.length oc, K, true, HC.out, HFO.out, HLEN.out, HMEM.out⟩
      | false =>
        have hx0 : (x == []) = false := HA2.out
        obtain ⟨d, hd⟩ : ∃ d, dotB x = d := ⟨_, rfl⟩
        have HD := Lib.hid hd
        cases d with
        | false =>
          have hd2 := hd
          unfold dotB at hd2
          rw [Bool.or_eq_false_iff] at hd2
          have HFO : Hid (Fold (pre ++ [x]) (K ++ [x]) false) := Lib.hid (HFOLD.out.keep hd2.2 (by rw [hx0, hd2.1]; rfl))
          obtain ⟨hC, hKB, hKA⟩ := HST.out false
          have c4 := hC.b3.cell1
          have c2 := hC.b2.cell1
          have f2 := hC.b2.free 0
          have HC := Lib.hid hC
          have HKB := Lib.hid hKB
          have HKA := Lib.hid hKA
          obtain ⟨W6, hW6⟩ : ∃ W6, W5.setCell ⟨w.heap.size + 1 + 1 + 1, 0, none⟩ (.bool false) = W6 := ⟨_, rfl⟩
          have hs6 : W6.heap.size = W5.heap.size := by rw [← hW6]; simp
          have z4 : W4.heap.size + 2 ≤ (W6.alloc (.cells #[.string ⟨x.toArray⟩] 9)).heap.size := by rw [World.size_alloc]; omega
          have z3 : K.length < 100000 := by have := HLEN.out; rw [List.length_append] at this; simp at this; omega
          have hlt6 : W4.heap.size + 2 ≤ W6.heap.size := by omega
          have HS6 := Lib.hid hlt6
          rw [hW6] at HC c4 c2 f2 HKB HKA
          have HF6 := Lib.hid (HC.out.row.alloc (.cells #[.string ⟨x.toArray⟩] 9))
          have HW6 := Lib.hid hW6
          have hb2 : x.isEmpty = false := ha
          clear hC hKB hKA hs0 hsz4 hd hd2 hx0 hs6 hW6 hlt6
          gi_wp2_with fail
          refine ⟨trivial, ?_⟩
          refine (CallsIn.inRound _ (callsIn_wide.2 (isDots_any x _))).mono ?_
          rintro e w' ⟨rfl, rfl⟩
          rw [HD.out]
          gi_upto_region 8 with fail
          rw [HW6.out]
          clear c3 f3
          gi_wp2_with (gi_at_builtin; refine wpListIn_append_own _ rfl _ _ 76 rfl (W4.heap.size + 2) 9 i0 (.string ⟨#[]⟩) 1 16 Tryd.underlying76 hi hz0 hz1 hz2 rfl (by decide) _ _ _ rfl HF6.out ⟨W6.heap.size, 0, none⟩ 1 1 [strW x] rfl rfl (cell_one_new _ _ _) (by simp [Value.oneCell', strW]) (by unfold maxLen; omega) (by omega) z4 ?_; intro v' w6 hown' hgrow _; obtain ⟨g2, cc, rfl, -, -⟩ := World.ownsRow.form hown' (by omega); have HG := Lib.hid hgrow; have HO := Lib.hid hown'; have b26 := (HC.out.b2.alloc (.cells #[.string ⟨x.toArray⟩] 9)).kept hgrow (fun e => by have := (HC.out.row.lt _ e.symm).1; have := HKK.out; omega); clear hgrow hown'; have k3 := b26.cell1; have k4 := b26.free 0)
          have hown : ∀ q, q < W4.heap.size + 2 → some q ≠ (Value.slice ov K.length oc).ownBlock := fun q hq e => by have := (HC.out.row.lt q e.symm).1; omega
          have hkk := HKK.out
          have hs0 := HS0.out
          have hsz4 := HSZ4.out
          have hlt6 := HS6.out
          have hsz6 : W6.heap.size ≤ w6.heap.size := by have := HG.out.size; rw [World.size_alloc] at this; omega
          have hq : ∀ q, q < W4.heap.size + 2 → w6.heap[q]? = W6.heap[q]? := fun q hq =>
            (HG.out.block q (by rw [World.size_alloc]; omega) (hown q hq)).trans (Below.heap_alloc _ _ _ (by omega))
          have hKB6 : KB W4.heap.size W5 w6 := HKB.out.trans ⟨hsz6, hq _ (by omega), hq _ (by omega)⟩
          have hKA6 : KA W0.heap.size W5 w6 := HKA.out.trans ⟨hsz6, hq _ (by omega), hq _ (by omega), hq _ (by omega)⟩
          have hb := both_set ⟨hKB6, hKA6⟩ (C := w.heap.size + 1 + 1) (by omega) (by omega) (.slice (some ⟨g2, 0, none⟩) (K.length + 1) cc)
          have hbel6 : Below w.heap.size w w6 := below_grownR (HC.out.bel.alloc HC.out.bel.size _) (by rw [World.size_alloc]; have := HC.out.bel.size; omega) HG.out (fun r hr => by have := (HC.out.row.lt r hr).1; omega)
          refine ⟨hb.1, hb.2, .slice (some ⟨g2, 0, none⟩) (K.length + 1) cc, K ++ [x], false, ?_, HFO.out, by have := HLEN.out; simp at this ⊢; omega, fun y hy => by
            rcases List.mem_append.1 hy with hy | hy
            · exact HMEM.out y hy
            · rw [List.mem_singleton.1 hy]; exact hxl⟩
          refine ⟨((HC.out.b0.alloc _).kept HG.out (hown _ (by omega))).other _ (by show w.heap.size + 1 + 1 ≠ _; omega) _, ((HC.out.b1.alloc _).kept HG.out (hown _ (by omega))).other _ (by show w.heap.size + 1 + 1 ≠ _; omega) _, b26.set 0 _, ((HC.out.b3.alloc _).kept HG.out (hown _ (by omega))).other _ (by show w.heap.size + 1 + 1 ≠ _; omega) _, ?_, hbel6.setCell (p := ⟨w.heap.size + 1 + 1, 0, none⟩) (by show _ ≤ w.heap.size + 1 + 1; omega) _, by simp only [World.size_setCell]; omega⟩
          rw [List.map_append, List.length_append]
          exact ownsRow_setCell_below HO.out (a := ⟨w.heap.size + 1 + 1, 0, none⟩) (by show w.heap.size + 1 + 1 < _; omega) _
        | true =>
          have hd2 := hd
          unfold dotB at hd2
          obtain ⟨hC, hKB, hKA⟩ := HST.out true
          have c4 := hC.b3.cell1
          have c2 := hC.b2.cell1
          have f2 := hC.b2.free 0
          have g0 := hC.b0.free 0
          have g1 := hC.b1.free 0
          have e0 := hC.b0.cell1
          have e1 := hC.b1.cell1
          have HC := Lib.hid hC
          have HKB := Lib.hid hKB
          have HKA := Lib.hid hKA
          obtain ⟨W6, hW6⟩ : ∃ W6, W5.setCell ⟨w.heap.size + 1 + 1 + 1, 0, none⟩ (.bool true) = W6 := ⟨_, rfl⟩
          rw [hW6] at HC c4 c2 f2 g0 g1 e0 e1 HKB HKA
          have HW6 := Lib.hid hW6
          have hb2 : x.isEmpty = false := ha
          obtain ⟨e, he⟩ : ∃ e, (x == [46, 46]) = e := ⟨_, rfl⟩
          cases e with
          | false =>
            have HFO : Hid (Fold (pre ++ [x]) K true) := Lib.hid (HFOLD.out.drop he (by rw [he, Bool.or_false] at hd2; rw [hd2]; simp))
            clear hC hKB hKA hs0 hsz4 hd hd2 hx0 hW6
            gi_wp2_with fail
            refine ⟨trivial, ?_⟩
            refine (CallsIn.inRound _ (callsIn_wide.2 (isDots_any x _))).mono ?_
            rintro e w' ⟨rfl, rfl⟩
            rw [HD.out]
            gi_upto_region 8 with fail
            rw [HW6.out]
            clear c3 f3
            gi_wp2_with fail
            exact ⟨HKB.out, HKA.out, .slice ov K.length oc, K, true, HC.out, HFO.out, HLEN.out, HMEM.out⟩
          | true =>
            by_cases hK0 : K = []
            · have HFX : Hid (FoldX (pre ++ [x])) := Lib.hid (HFOLD.out.up he hK0)
              subst hK0
              clear hC hKB hKA hs0 hsz4 hd hd2 hx0 hW6
              gi_wp2_with fail
              refine ⟨trivial, ?_⟩
              refine (CallsIn.inRound _ (callsIn_wide.2 (isDots_any x _))).mono ?_
              rintro e w' ⟨rfl, rfl⟩
              rw [HD.out]
              gi_upto_region 8 with fail
              rw [HW6.out]
              clear c3 f3
              gi_wp2_with fail
              have hs0 := HS0.out
              have hsz4 := HSZ4.out
              have hkk := HKK.out
              have hb := both_set (both_set ⟨HKB.out, HKA.out⟩ (C := w.heap.size) (by omega) (by omega) (.string ⟨#[]⟩)) (C := w.heap.size + 1) (by omega) (by omega) (.int .i64 18)
              refine ⟨hb.1, hb.2, .slice ov 0 oc, [], true, ?_, HFX.out⟩
              exact ⟨(HC.out.b0.set 0 _).other _ (by show w.heap.size + 1 ≠ _; omega) _, (HC.out.b1.other _ (by show w.heap.size ≠ _; omega) _).set 0 _, (HC.out.b2.other _ (by show w.heap.size ≠ _; omega) _).other _ (by show w.heap.size + 1 ≠ _; omega) _, (HC.out.b3.other _ (by show w.heap.size ≠ _; omega) _).other _ (by show w.heap.size + 1 ≠ _; omega) _,
                ownsRow_setCell_below (ownsRow_setCell_below HC.out.row (a := ⟨w.heap.size, 0, none⟩) (by show w.heap.size < _; omega) _) (a := ⟨w.heap.size + 1, 0, none⟩) (by show w.heap.size + 1 < _; omega) _,
                (HC.out.bel.setCell (p := ⟨w.heap.size, 0, none⟩) (Nat.le_refl _) _).setCell (p := ⟨w.heap.size + 1, 0, none⟩) (by show _ ≤ w.heap.size + 1; omega) _, by have := HC.out.sz; simp only [World.size_setCell]; omega⟩
            · obtain ⟨n, hn⟩ : ∃ n, K.length = n + 1 := ⟨K.length - 1, by have : K.length ≠ 0 := fun e => hK0 (List.eq_nil_of_length_eq_zero e); omega⟩
              have HFO : Hid (Fold (pre ++ [x]) K.dropLast true) := Lib.hid (HFOLD.out.dots he hK0)
              obtain ⟨g, cap, hv, hcap, hrow2⟩ := own_pop HC.out.row hn
              injection hv with hv1 hv2 hv3
              subst hv1 hv3
              have q3 : ((K.length : Int) == 0) = false := by rw [beq_eq_false_iff_ne]; omega
              have hKl : K.length < 1000000 := by have := HLEN.out; rw [List.length_append, List.length_singleton] at this; omega
              have HWT := Lib.hid (fun W => withoutTop_any (some ⟨g, 0, none⟩) n K.length oc hn (by omega) hKl (by simp) W)
              have HROW := Lib.hid hrow2
              clear hC hKB hKA hs0 hsz4 hd hd2 hx0 hW6 hrow2 hn hK0
              gi_wp2_with fail
              refine ⟨trivial, ?_⟩
              refine (CallsIn.inRound _ (callsIn_wide.2 (isDots_any x _))).mono ?_
              rintro e w' ⟨rfl, rfl⟩
              rw [HD.out]
              gi_upto_region 8 with fail
              rw [HW6.out]
              clear c3 f3
              gi_wp2_with fail
              refine ⟨trivial, ?_⟩
              refine (CallsIn.inRound _ (callsIn_wide.2 (HWT.out _))).mono ?_
              rintro e w' ⟨rfl, rfl⟩
              gi_wp2_with fail
              have hs0 := HS0.out
              have hsz4 := HSZ4.out
              have hkk := HKK.out
              have hb := both_set ⟨HKB.out, HKA.out⟩ (C := w.heap.size + 1 + 1) (by omega) (by omega) (.slice (some ⟨g, 0, none⟩) n oc)
              refine ⟨hb.1, hb.2, .slice (some ⟨g, 0, none⟩) n oc, K.dropLast, true, HC.out.listed hkk HROW.out, HFO.out, ?_, fun y hy => HMEM.out y (List.dropLast_subset K hy)⟩
              have := HLEN.out
              rw [List.length_dropLast]
              omega
    case done =>
      clear s0 s1 s2 hF4
      rintro W' ⟨v, K, o, hF, hfold, hlen, hmem⟩ hD
      have hcl := hfold []
      rw [List.append_nil] at hcl
      have HR2 : Hid (cleanR p = .inr (putL K o)) := Lib.hid (by rw [HR.out, hcl]; rfl)
      have hcs := cutS_len X []
      have hbuild := build_any K o (by omega) (fun x hx => by have := hmem x hx; omega) v W' (strs_of_own hF.row)
      obtain ⟨ov, oc, rfl⟩ := own_slice hF.row
      have c2 := hF.b2.cell1
      have c3 := hF.b3.cell1
      have HF := Lib.hid hF
      have HD := Lib.hid hD
      have HBUILD := Lib.hid hbuild
      clear hF hD hfold hcl hbuild hs0 hsz4
      gi_wp2_with fail
      refine ⟨trivial, ?_⟩
      refine (callsIn_wide.2 HBUILD.out).mono ?_
      rintro e w6 ⟨rfl, hb6⟩
      have r0 := HF.out.b0.below hb6 HF.out.b0.lt
      have r1 := HF.out.b1.below hb6 HF.out.b1.lt
      have hbel := HF.out.bel.trans (hb6.mono HF.out.bel.size)
      have hD6 := (hb6.block W4.heap.size (lt_of_block HD.out)).trans HD.out
      have c0 := r0.cell1
      have c1 := r1.cell1
      have f0 := r0.free 0
      have f1 := r1.free 0
      have R0 := Lib.hid r0
      have R1 := Lib.hid r1
      have HBEL := Lib.hid hbel
      have HD6 := Lib.hid hD6
      clear r0 r1 hbel hD6 hb6
      gi_wp2_with fail
      have hs0 := HS0.out
      have hsz4 := HSZ4.out
      obtain ⟨W7, hW7⟩ : ∃ W7, (w6.setCell ⟨w.heap.size, 0, none⟩ (.string ⟨(putL K o).toArray⟩)).setCell ⟨w.heap.size + 1, 0, none⟩ (.int .i64 0) = W7 := ⟨_, rfl⟩
      have t0 : CBlk 9 W7 w.heap.size [.string ⟨(putL K o).toArray⟩] := by rw [← hW7]; exact (R0.out.set 0 _).other _ (by show w.heap.size + 1 ≠ _; omega) _
      have t1 : CBlk 23 W7 (w.heap.size + 1) [.int .i64 0] := by rw [← hW7]; exact (R1.out.other _ (by show w.heap.size ≠ _; omega) _).set 0 _
      have hB7 : Below w.heap.size w W7 := by rw [← hW7]; exact (HBEL.out.setCell (p := ⟨w.heap.size, 0, none⟩) (Nat.le_refl _) _).setCell (p := ⟨w.heap.size + 1, 0, none⟩) (by show _ ≤ w.heap.size + 1; omega) _
      have hD7 : W7.heap[W4.heap.size]? = some (.deferred (some [])) := by
        rw [← hW7]
        exact (Below.heap_setCell _ _ _ _ (by show W4.heap.size ≠ w.heap.size + 1; omega)).trans ((Below.heap_setCell _ _ _ _ (by show W4.heap.size ≠ w.heap.size; omega)).trans HD6.out)
      rw [hW7]
      have hgp := grownBy_putObj' W7 W4.heap.size (.deferred none)
      refine ⟨by simp, .inl ⟨_, _, rfl, run_takeDeferred hD7, ?_⟩⟩
      exact ⟨_, res2 (t0.kept hgp (fun e => by injection e; omega)) (t1.kept hgp (fun e => by injection e; omega)) rfl _ rfl rfl Tryd.isAgg9 Tryd.isAgg23, HR2.out ▸ rfl, below_grownR hB7 hB7.size hgp (fun r hr => by injection hr; omega)⟩
    case stop =>
      clear s0 s1 s2 hF4
      rintro W' pre x rest hpr ⟨v, K, o, hF, hfx⟩ hD
      have HR2 : Hid (cleanR p = .inl 18) := Lib.hid (by
        have := hfx rest
        rw [show (pre ++ [x]) ++ rest = pre ++ x :: rest by simp, hpr] at this
        rw [HR.out, this]
        rfl)
      gi_wp2
      have hgp := grownBy_putObj' W' W4.heap.size (.deferred none)
      have hF6 := hF.kept hgp (by omega) (by omega)
      refine ⟨by simp, .inl ⟨_, _, rfl, run_takeDeferred hD, ?_⟩⟩
      exact ⟨_, res2 hF6.b0 hF6.b1 rfl _ rfl rfl Tryd.isAgg9 Tryd.isAgg23, HR2.out ▸ rfl, hF6.bel⟩
end Go.Proofs.YtjinedeelkdgiaaDoor
