/-
  The program's Normal, for texts shorter than 100000 bytes. The library's variable of the search must hold a number.
-/
import Derived.Test.YtkchhgpebleioaaDoorDProg3
import Derived.Test.YtkchhgpebleioaaDoorDPure3
import Derived.BigRegionIn
namespace Go.Proofs.YtkchhgpebleioaaDoor
open Go.RowKit Go.Shelf
attribute [local go_sem] Oper.semAt_some
theorem res1 {t : TypeId} {w : World} {B : Nat} {v : Value} (h1 : CBlk t w B [v]) {fn : Func} {p : Tmp} (h : fn.results = #[.cell p t]) (tmps : Array Value)
    (hp : tmps.getD p undef = .pointer (some ⟨B, 0, none⟩)) (ht : ∀ w, (isAgg t).run Tryd.prog w = .ok false w) : (Go.results fn tmps).run Tryd.prog w = .ok v w := by
  have hp' : tmps[p]?.getD undef = .pointer (some ⟨B, 0, none⟩) := by simpa using hp
  have c0 := h1.cell1
  simp [Go.results, h, hp', asAddr, go_sem, c0, ht]
/-- A world with nothing but a cell of it written. -/
theorem ka_set {b C : Nat} {W : World} (h : C < b) (i : Nat) (v : Value) : KA b W (W.setCell ⟨C, i, none⟩ v) :=
  ⟨by simp, Below.heap_setCell _ _ _ _ (by show b ≠ C; omega), Below.heap_setCell _ _ _ _ (by show b + 1 ≠ C; omega), Below.heap_setCell _ _ _ _ (by show b + 2 ≠ C; omega)⟩
theorem kb_set {N C : Nat} {W : World} (h : C < N) (i : Nat) (v : Value) : KB N W (W.setCell ⟨C, i, none⟩ v) :=
  ⟨by simp, Below.heap_setCell _ _ _ _ (by show N ≠ C; omega), Below.heap_setCell _ _ _ _ (by show N + 1 ≠ C; omega)⟩
theorem KA.refl (b : Nat) (W : World) : KA b W W := ⟨Nat.le_refl _, rfl, rfl, rfl⟩
theorem KB.refl (b : Nat) (W : World) : KB b W W := ⟨Nat.le_refl _, rfl, rfl⟩
/-- Memory of Normal: its result. -/
structure NM (w W : World) (r : Bool) : Prop where
  b0 : CBlk 4 W w.heap.size [.bool r]
  bel : Below w.heap.size w W
theorem NM.kept {w W W' : World} {r : Bool} (h : NM w W r) {k : Nat} (hg : W.grownBy W' (some k)) (hk : w.heap.size < k) : NM w W' r :=
  ⟨h.b0.kept hg (fun e => by injection e; omega), below_grownR h.bel h.bel.size hg (fun r hr => by injection hr; omega)⟩
set_option maxRecDepth 100000 in
set_option maxHeartbeats 8000000 in
theorem normal_any (p : List UInt8) (hl : p.length < 100000) (w : World) (hM : ML w) :
    Calls Tryd.prog 10 #[.string ⟨p.toArray⟩] w fun e w' => e = .returned (.bool (normB p)) ∧ Below w.heap.size w w' := by
  have hN := norm_eq p
  obtain ⟨W0, hW0⟩ : ∃ W0, w.alloc (.cells #[.bool false] 4) = W0 := ⟨_, rfl⟩
  have b0 : CBlk 4 W0 w.heap.size [.bool false] := by rw [← hW0]; exact CBlk.new _ w _
  have hB0 : Below w.heap.size w W0 := by rw [← hW0]; exact (Below.refl _ _).alloc (Nat.le_refl _) _
  have hM0 : ML W0 := hM.below hB0
  have hs0 : W0.heap.size = w.heap.size + 1 := by rw [← hW0]; simp
  have HB0 := Lib.hid b0
  have HB := Lib.hid hB0
  have HM0 := Lib.hid hM0
  have HS0 := Lib.hid hs0
  have f0 := b0.free 0
  have c0 := b0.cell1
  clear b0 hB0 hM0 hs0 hM
  by_cases h1 : 128 < p.length
  · have d1 : decide ((128 : Int) < (p.length : Int)) = true := decide_eq_true (by omega)
    have d1n : decide (128 < p.length) = true := decide_eq_true h1
    have HR : Hid (normB p = false) := Lib.hid (by rw [hN, decide_eq_false (by omega)]; rfl)
    clear hN h1
    refine (callsIn_wide (n := 5)).1 ?_
    refine callsIn_of_wp_marks Tryd.func10 rfl trivial ?_ rfl
    simp only [Tryd.ntmps10, List.size_toArray, List.length_cons, List.length_nil, Nat.reduceAdd, Nat.reduceSub, Array.replicate_succ, Array.replicate_zero, List.push_toArray, List.append_toArray, List.nil_append, List.cons_append]
    gi_upto_region 1 with fail
    clear hW0
    gi_wp2_with fail
    refine ⟨trivial, ?_⟩
    gi_wp2_with fail
    refine ⟨trivial, ?_⟩
    gi_wp2_with fail
    exact ⟨_, res1 (HB0.out.set 0 (.bool false)) rfl _ rfl Tryd.isAgg4, by rw [HR.out], HB.out.setCell (p := ⟨w.heap.size, 0, none⟩) (Nat.le_refl _) _⟩
  · have d1 : decide ((128 : Int) < (p.length : Int)) = false := decide_eq_false (by omega)
    have d1n : decide (128 < p.length) = false := decide_eq_false h1
    rw [decide_eq_true (by omega), Bool.true_and] at hN
    obtain ⟨q, hq⟩ : ∃ q, pathB p = q := ⟨_, rfl⟩
    rw [hq] at hN
    have HQ := Lib.hid hq
    cases q with
    | false =>
      have HR : Hid (normB p = false) := Lib.hid hN
      clear hN h1 hq
      refine (callsIn_wide (n := 5)).1 ?_
      refine callsIn_of_wp_marks Tryd.func10 rfl trivial ?_ rfl
      simp only [Tryd.ntmps10, List.size_toArray, List.length_cons, List.length_nil, Nat.reduceAdd, Nat.reduceSub, Array.replicate_succ, Array.replicate_zero, List.push_toArray, List.append_toArray, List.nil_append, List.cons_append]
      gi_upto_region 1 with fail
      clear hW0
      gi_wp2_with fail
      refine ⟨trivial, ?_⟩
      refine (callsIn_wide.2 (isPath_any p _)).mono ?_
      rintro e w' ⟨rfl, rfl⟩
      rw [HQ.out]
      gi_wp2_with fail
      refine ⟨trivial, ?_⟩
      gi_wp2_with fail
      exact ⟨_, res1 (HB0.out.set 0 (.bool false)) rfl _ rfl Tryd.isAgg4, by rw [HR.out], HB.out.setCell (p := ⟨w.heap.size, 0, none⟩) (Nat.le_refl _) _⟩
    | true =>
      have hp0 : 0 < p.length := by
        cases p with
        | nil => simp [pathB] at hq
        | cons c r => simp
      rw [Bool.true_and] at hN
      obtain ⟨c, hc⟩ : ∃ c, Lib.contains p [47, 47] = c := ⟨_, rfl⟩
      have HC := Lib.hid hc
      rw [hc] at hN
      cases c with
      | true =>
        have HR : Hid (normB p = false) := Lib.hid hN
        clear hN h1 hq hc
        refine (callsIn_wide (n := 5)).1 ?_
        refine callsIn_of_wp_marks Tryd.func10 rfl trivial ?_ rfl
        simp only [Tryd.ntmps10, List.size_toArray, List.length_cons, List.length_nil, Nat.reduceAdd, Nat.reduceSub, Array.replicate_succ, Array.replicate_zero, List.push_toArray, List.append_toArray, List.nil_append, List.cons_append]
        gi_upto_region 1 with fail
        clear hW0
        gi_wp2_with fail
        refine ⟨trivial, ?_⟩
        refine (callsIn_wide.2 (isPath_any p _)).mono ?_
        rintro e w' ⟨rfl, rfl⟩
        rw [HQ.out]
        gi_wp2_with fail
        refine ⟨trivial, ?_⟩
        refine (callsIn_wide.2 (contains2_any p (by omega) _ HM0.out)).mono ?_
        rintro e w' ⟨rfl, rfl⟩
        rw [HC.out]
        gi_wp2_with fail
        exact ⟨_, res1 (HB0.out.set 0 (.bool false)) rfl _ rfl Tryd.isAgg4, by rw [HR.out], HB.out.setCell (p := ⟨w.heap.size, 0, none⟩) (Nat.le_refl _) _⟩
      | false =>
        have HR : Hid (normB p = (piecesL p).all fun x => !dotB x) := Lib.hid (by rw [hN]; rfl)
        clear hN h1 hq hc
        have hpd : (p.drop 1).length < 100000 := by rw [List.length_drop]; omega
        have HP : Hid (piecesL p = cutS [] (p.drop 1)) := Lib.hid rfl
        have hparts := fun W => parts_any p hp0 (by omega) W
        obtain ⟨X, hX⟩ : ∃ X, p.drop 1 = X := ⟨_, rfl⟩
        rw [hX] at hpd HP hparts
        have HPARTS := Lib.hid hparts
        clear hX hparts hp0
        refine (callsIn_wide (n := 5)).1 ?_
        refine callsIn_of_wp_marks Tryd.func10 rfl trivial ?_ rfl
        simp only [Tryd.ntmps10, List.size_toArray, List.length_cons, List.length_nil, Nat.reduceAdd, Nat.reduceSub, Array.replicate_succ, Array.replicate_zero, List.push_toArray, List.append_toArray, List.nil_append, List.cons_append]
        gi_upto_region 1 with fail
        clear hW0
        gi_wp2_with fail
        refine ⟨trivial, ?_⟩
        refine (callsIn_wide.2 (isPath_any p _)).mono ?_
        rintro e w' ⟨rfl, rfl⟩
        rw [HQ.out]
        gi_wp2_with fail
        refine ⟨trivial, ?_⟩
        refine (callsIn_wide.2 (contains2_any p (by omega) _ HM0.out)).mono ?_
        rintro e w' ⟨rfl, rfl⟩
        rw [HC.out]
        gi_wp2_with fail
        refine ⟨trivial, ?_⟩
        refine (callsIn_wide.2 (HPARTS.out _)).mono ?_
        rintro e w' ⟨rfl, rfl⟩
        generalize hW4 : ((W0.alloc (.cells #[.string ⟨X.toArray⟩] 9)).alloc (.cells #[.string ⟨#[47]⟩] 9)).alloc (.cells #[.int .i64 0] 3) = W4
        have hgN : W0.grownBy W4 none := by rw [← hW4]; exact gr_alloc (gr_alloc (gr_alloc (World.grownBy.refl _ _) _) _) _
        have hsz4 : W4.heap.size = W0.heap.size + 3 := by rw [← hW4]; simp
        have s0 : CBlk 9 W4 W0.heap.size [.string ⟨X.toArray⟩] := by rw [← hW4]; exact ((CBlk.new _ W0 _).alloc _).alloc _
        have s1 : CBlk 9 W4 (W0.heap.size + 1) [.string ⟨#[47]⟩] := by
          rw [← hW4]
          have := (CBlk.new 9 (W0.alloc (.cells #[.string ⟨X.toArray⟩] 9)) [.string ⟨#[47]⟩]).alloc (.cells #[.int .i64 0] 3)
          simpa using this
        have s2 : CBlk 3 W4 (W0.heap.size + 2) [.int .i64 0] := by
          rw [← hW4]
          have := CBlk.new 3 ((W0.alloc (.cells #[.string ⟨X.toArray⟩] 9)).alloc (.cells #[.string ⟨#[47]⟩] 9)) [.int .i64 0]
          simpa using this
        have hF4 : NM w W4 false := ⟨HB0.out.kept hgN (by simp), below_grownR HB.out HB.out.size hgN (fun k e => by cases e)⟩
        have HSZ4 := Lib.hid hsz4
        clear hW4 hgN HB0 HB f0 c0 hsz4
        gi_wp2_with fail
        have hs0 := HS0.out
        have hsz4 := HSZ4.out
        refine rangeS (by omega) W0.heap.size X hpd rfl rfl s0 s1 s2
          (fun pre W => NM w W false ∧ (pre.all fun x => !dotB x) = true) (fun pre W => NM w W false ∧ (pre.all fun x => !dotB x) = false)
          ?hIB ?hIL ?hXL ⟨hF4, rfl⟩ ?round ?done ?stop
        case hIB => exact fun pre W W' h hg => ⟨h.1.kept hg (by omega), h.2⟩
        case hIL => exact fun pre W W' h hg => ⟨h.1.kept hg (by omega), h.2⟩
        case hXL => exact fun pre W W' h hg => ⟨h.1.kept hg (by omega), h.2⟩
        case round =>
          clear s0 s1 s2 hF4
          rintro pre x W ⟨hF, hall⟩ hpl hxl hsz
          unfold encX
          gi_wp2
          refine ⟨World.grownBy.refl _ _, ?_⟩
          intro W5 hg5
          have hF5 := hF.kept hg5 (by omega)
          have c0 := hF5.b0.cell1
          have f0 := hF5.b0.free 0
          obtain ⟨d, hd⟩ : ∃ d, dotB x = d := ⟨_, rfl⟩
          have HD := Lib.hid hd
          have hall2 : ((pre ++ [x]).all fun x => !dotB x) = !d := by rw [List.all_append, hall]; simp [hd]
          have HALL := Lib.hid hall2
          have HF5 := Lib.hid hF5
          clear hF hall hall2 hd hF5
          gi_wp2_with fail
          refine ⟨trivial, ?_⟩
          refine (CallsIn.inRound _ (callsIn_wide.2 (isDots_any x _))).mono ?_
          rintro e w' ⟨rfl, rfl⟩
          rw [HD.out]
          cases d with
          | true =>
            gi_wp2_with fail
            exact ⟨kb_set (by omega) _ _, ka_set (by omega) _ _, ⟨HF5.out.b0.set 0 _, HF5.out.bel.setCell (p := ⟨w.heap.size, 0, none⟩) (Nat.le_refl _) _⟩, HALL.out⟩
          | false =>
            gi_wp2_with fail
            exact ⟨KB.refl _ _, KA.refl _ _, HF5.out, HALL.out⟩
        case done =>
          clear s0 s1 s2 hF4
          rintro W' ⟨hF, hall⟩ hD
          have c0 := hF.b0.cell1
          have f0 := hF.b0.free 0
          have HF := Lib.hid hF
          have HD := Lib.hid hD
          have HN : Hid (normB p = true) := Lib.hid (by rw [HR.out, HP.out]; exact hall)
          clear hF hD hall
          gi_wp2_with fail
          have hb1 := HF.out.b0.set 0 (.bool true)
          have hB1 := HF.out.bel.setCell (p := ⟨w.heap.size, 0, none⟩) (Nat.le_refl _) (.bool true)
          have hD1 : (W'.setCell ⟨w.heap.size, 0, none⟩ (.bool true)).heap[W4.heap.size]? = some (.deferred (some [])) := (Below.heap_setCell _ _ _ _ (by show W4.heap.size ≠ w.heap.size; omega)).trans HD.out
          have hgp := grownBy_putObj' (W'.setCell ⟨w.heap.size, 0, none⟩ (.bool true)) W4.heap.size (.deferred none)
          refine ⟨by simp, .inl ⟨_, _, rfl, run_takeDeferred hD1, ?_⟩⟩
          refine ⟨_, res1 (hb1.kept hgp (fun e => by injection e; omega)) rfl _ rfl Tryd.isAgg4, HN.out ▸ rfl, below_grownR hB1 hB1.size hgp (fun r hr => by injection hr; omega)⟩
        case stop =>
          clear s0 s1 s2 hF4
          rintro W' pre x rest hpr ⟨hF, hall⟩ hD
          have HN : Hid (normB p = false) := Lib.hid (by
            rw [HR.out, HP.out, ← hpr, show pre ++ x :: rest = (pre ++ [x]) ++ rest by simp, List.all_append, hall]
            rfl)
          gi_wp2
          have hgp := grownBy_putObj' W' W4.heap.size (.deferred none)
          refine ⟨by simp, .inl ⟨_, _, rfl, run_takeDeferred hD, ?_⟩⟩
          exact ⟨_, res1 (hF.b0.kept hgp (fun e => by injection e; omega)) rfl _ rfl Tryd.isAgg4, HN.out ▸ rfl, below_grownR hF.bel hF.bel.size hgp (fun r hr => by injection hr; omega)⟩
end Go.Proofs.YtkchhgpebleioaaDoor
