/-
  The parts of a line by the program: partsOf, partLimit, Parts, Long.
-/
import Derived.Test.YtnnldmgdojhejaaDoorQPLay
import Derived.Test.YtnnldmgdojhejaaDoorCBlk
import Derived.Test.YtnnldmgdojhejaaDoorQRef3
import Derived.Deep.RegionWith
import Derived.Deep.DeepCutAuto
import Derived.Laws.CopyOwn
import Derived.Laws.CopyRow
namespace Go.Proofs.YtnnldmgdojhejaaDoor
open Go.RowKit
def es : Value := .string ⟨#[]⟩
/-- The cells of the parts. -/
def prtC (l : List UInt8) : List Value := [.string ⟨(prtR l).1.toArray⟩, .string ⟨(prtR l).2.1.toArray⟩, .string ⟨(prtR l).2.2.1.toArray⟩]
theorem pcs_prt (l : List UInt8) : ((pcsR l).map fun x => Value.string ⟨x.toArray⟩) ++ [es, es, es].drop (pcsR l).length = prtC l ∧ (pcsR l).length = (prtR l).2.2.2 := by
  unfold pcsR prtC prtR
  cases spN l with
  | none => exact ⟨rfl, rfl⟩
  | some a =>
    dsimp only
    cases spN (l.drop (a + 1)) with
    | none => exact ⟨rfl, rfl⟩
    | some b => exact ⟨rfl, rfl⟩
theorem copy_parts (l : List UInt8) (N : Nat) (w : World) (A B : Nat) (hA : CBlk 35 w A [es, es, es]) (hB : w.heap[B]? = some (.cells (pcsC l) 9)) :
    ∃ W, (Builtin.copy_ #[40, 40] 3 #[.slice (some ⟨A, 0, none⟩) 3 3, .slice (some ⟨B, 0, none⟩) (pcsR l).length N]).run Tryd.prog w = .ok (.int .i64 ((prtR l).2.2.2 : Nat)) W ∧ CBlk 35 W A (prtC l) ∧ Below A w W := by
  obtain ⟨h1, h2, h3⟩ := pcsR_len l
  obtain ⟨p1, p2⟩ := pcs_prt l
  have hcl : ((pcsR l).map fun x => Value.string ⟨x.toArray⟩).length = (pcsR l).length := List.length_map _
  have hr := run_copy_row (P := Tryd.prog) w 40 40 3 9 A 0 3 3 ⟨B, 0, none⟩ (pcsR l).length N #[es, es, es] 35 ((pcsR l).map fun x => Value.string ⟨x.toArray⟩) Tryd.underlying40 (by kernel_rfl) hA (by rw [hcl]; show _ = min _ _; omega)
    (fun j v hj => by
      have hadd : (⟨B, 0, none⟩ : Addr).add j = ⟨B, j, none⟩ := by simp [Addr.add]; exact fun h => h.symm
      rw [hadd, cell_of_row _ _ _ _ _ _ hB]
      unfold pcsC Lib.cellsOf
      rw [List.getElem?_toArray, List.map_map, List.getElem?_append_left]
      · exact hj
      · have := (List.getElem?_eq_some_iff.1 hj).1
        simpa using this)
    (by rw [hcl]; simp; omega) (fun v hv => by
      obtain ⟨x, _, rfl⟩ := List.mem_map.1 hv
      rfl)
  rw [Nat.zero_add, hcl] at hr
  have e : (([es, es, es].toArray.toList.take 0 ++ ((pcsR l).map fun x => Value.string ⟨x.toArray⟩) ++ [es, es, es].toArray.toList.drop (pcsR l).length) : List Value) = prtC l := by
    rw [← p1]
    simp
  refine ⟨w.setRow A (prtC l).toArray, ?_, setRow_heap w A _ _ _ _ hA, below_setRow (Below.refl _ w) (Nat.le_refl _) _⟩
  rw [← e, ← p2]
  exact hr
theorem prt_result {w : World} {B : Nat} {a b c : Value} (h1 : CBlk 35 w B [a, b, c]) {fn : Func} {p q : Tmp} (h : fn.results = #[.cell p 35, .tmp q]) (tmps : Array Value) (x : Value)
    (hp : tmps.getD p undef = .pointer (some ⟨B, 0, none⟩)) (hq : tmps.getD q undef = x) : (Go.results fn tmps).run Tryd.prog w = .ok (.tuple #[.agg #[a, b, c], x]) w := by
  have hp' : tmps[p]?.getD undef = .pointer (some ⟨B, 0, none⟩) := by simpa using hp
  have hq' : tmps[q]?.getD undef = x := by simpa using hq
  have c0 := h1.cell 0 (by simp)
  have c1 := h1.cell 1 (by simp)
  have c2 := h1.cell 2 (by simp)
  simp at c0 c1 c2
  simp [Go.results, h, hp', hq', asAddr, go_sem, c0, c1, c2]
theorem qcells3 {t : TypeId} {w : World} {B : Nat} {a b c : Value} (h : CBlk t w B [a, b, c]) : w.cell? ⟨B, 0, none⟩ = some a ∧ w.cell? ⟨B, 1, none⟩ = some b ∧ w.cell? ⟨B, 2, none⟩ = some c := ⟨h.cell 0 (by simp), h.cell 1 (by simp), h.cell 2 (by simp)⟩
theorem qfrees3 {t : TypeId} {w : World} {B : Nat} {a b c : Value} (h : CBlk t w B [a, b, c]) : w.frozen? ⟨B, 0, none⟩ = false ∧ w.frozen? ⟨B, 1, none⟩ = false ∧ w.frozen? ⟨B, 2, none⟩ = false := ⟨h.free 0, h.free 1, h.free 2⟩
theorem qstore3 {t : TypeId} {w : World} {B : Nat} {a b c : Value} (h : CBlk t w B [a, b, c]) (x y z : Value) : CBlk t (((w.setCell ⟨B, 0, none⟩ x).setCell ⟨B, 1, none⟩ y).setCell ⟨B, 2, none⟩ z) B [x, y, z] := ((h.set 0 x).set 1 y).set 2 z
theorem qbelow3 {n : Nat} {w W : World} {B : Nat} (hB : Below n w W) (h : n ≤ B) (x y z : Value) : Below n w (((W.setCell ⟨B, 0, none⟩ x).setCell ⟨B, 1, none⟩ y).setCell ⟨B, 2, none⟩ z) := ((hB.setCell (p := ⟨B, 0, none⟩) h x).setCell (p := ⟨B, 1, none⟩) h y).setCell (p := ⟨B, 2, none⟩) h z
set_option maxHeartbeats 2000000 in
theorem partsOf_any (l : List UInt8) (hl : l.length < 1000000) (w : World) :
    Calls Tryd.prog 16 #[.string ⟨l.toArray⟩] w fun e w' => e = .returned (.tuple #[.agg #[.string ⟨(prtR l).1.toArray⟩, .string ⟨(prtR l).2.1.toArray⟩, .string ⟨(prtR l).2.2.1.toArray⟩], .int .i64 ((prtR l).2.2.2 : Nat)]) ∧ Below w.heap.size w w' := by
  have HS := Lib.hid fun W => splitN_any l hl W
  have HP := Lib.hid (copy_parts l (min 3 (l.length + 1)))
  unfold prtC at HP
  obtain ⟨⟨a, b, c, k⟩, hp⟩ : ∃ p, prtR l = p := ⟨_, rfl⟩
  rw [hp] at HP ⊢
  clear hp
  obtain ⟨N, hN⟩ : ∃ N, min 3 (l.length + 1) = N := ⟨_, rfl⟩
  obtain ⟨n, hn⟩ : ∃ n, (pcsR l).length = n := ⟨_, rfl⟩
  rw [hN, hn] at HS HP
  dsimp only at HP ⊢
  clear hN hn
  go_enter Tryd.func16, Tryd.ntmps16
  go_upto_region 1 with fail
  have hA0 : CBlk 35 (w.alloc (.cells #[.string ⟨#[]⟩, .string ⟨#[]⟩, .string ⟨#[]⟩] 35)) w.heap.size [es, es, es] := CBlk.new _ w _
  have hB0 : Below w.heap.size w (w.alloc (.cells #[.string ⟨#[]⟩, .string ⟨#[]⟩, .string ⟨#[]⟩] 35)) := (Below.refl _ w).alloc (Nat.le_refl _) _
  obtain ⟨A, hA⟩ : ∃ A, w.heap.size = A := ⟨_, rfl⟩
  obtain ⟨W0, hW0⟩ : ∃ W0, w.alloc (.cells #[.string ⟨#[]⟩, .string ⟨#[]⟩, .string ⟨#[]⟩] 35) = W0 := ⟨_, rfl⟩
  have HAe := Lib.hid hA
  rw [hA] at hA0 hB0 ⊢
  rw [hW0] at hA0 hB0 ⊢
  clear hA hW0
  have lA := hA0.lt
  go_region_with (go_at_call 24; refine (HS.out _).mono ?_; rintro e w5 ⟨rfl, hw5⟩; have hA5 : CBlk 35 w5 A [es, es, es] := (by rw [hw5]; exact hA0.drew.alloc _); have hp5 : w5.heap[W0.heap.size]? = some (.cells (pcsC l) 9) := (by rw [hw5]; exact heap_alloc_new _ _); have hB5 : Below A w w5 := (by rw [hw5]; exact hB0.drew.alloc (Nat.le_of_lt lA) _); obtain ⟨W6, hcp, hA6, hb6⟩ := HP.out w5 A W0.heap.size hA5 hp5; clear hw5)
  all_goals
    have hB6 := hB5.trans hb6
    obtain ⟨c0, c1, c2⟩ := qcells3 hA6
    obtain ⟨f0, f1, f2⟩ := qfrees3 hA6
    clear hcp hA5 hp5 hb6 hB5 hA0 hB0 HS HP
    go_wp2_with fail
    exact bodyPost_ret (prt_result (qstore3 hA6 _ _ _) rfl _ _ rfl rfl) rfl ⟨rfl, by rw [HAe.out]; exact qbelow3 hB6 (Nat.le_refl _) _ _ _⟩
/-- The limits and the statuses of the parts. -/
def mstN : Nat → Nat | 0 => 16 | 1 => 1024 | _ => 512
def stsN : Nat → Nat | 0 => 400 | 1 => 414 | _ => 400
theorem partLimit_any (j : Nat) (hj : j < 3) (w : World) :
    Calls Tryd.prog 19 #[.int .i64 (j : Int)] w fun e w' => e = .returned (.tuple #[.int .i64 (mstN j : Nat), .int .i64 (stsN j : Nat)]) ∧ w = w' := by
  match j, hj with
  | 0, _ =>
    go_enter Tryd.func19, Tryd.ntmps19
    go_wp2_with fail
    go_ret2
    exact ⟨rfl, rfl⟩
  | 1, _ =>
    go_enter Tryd.func19, Tryd.ntmps19
    go_wp2_with fail
    go_ret2
    exact ⟨rfl, rfl⟩
  | 2, _ =>
    go_enter Tryd.func19, Tryd.ntmps19
    go_wp2_with fail
    go_ret2
    exact ⟨rfl, rfl⟩
theorem ix3s (a b c : ByteArray) : (∀ w, (Instr.index 35 (.agg #[.string a, .string b, .string c]) (.int .i64 0)).run Tryd.prog w = .ok (.string a) w) ∧ (∀ w, (Instr.index 35 (.agg #[.string a, .string b, .string c]) (.int .i64 1)).run Tryd.prog w = .ok (.string b) w) ∧ (∀ w, (Instr.index 35 (.agg #[.string a, .string b, .string c]) (.int .i64 2)).run Tryd.prog w = .ok (.string c) w) := by
  refine ⟨fun w => ?_, fun w => ?_, fun w => ?_⟩
  · simp [Instr.index, run_underlying Tryd.underlying35, asIntOf, go_sem]
  · simp [Instr.index, run_underlying Tryd.underlying35, asIntOf, go_sem]
  · simp [Instr.index, run_underlying Tryd.underlying35, asIntOf, go_sem]
set_option maxHeartbeats 4000000 in
theorem rparts_any (l : List UInt8) (hl : l.length < 100000) (w : World) :
    Calls Tryd.prog 9 #[.string ⟨l.toArray⟩] w fun e w' => e = .returned (prtW (prtR l)) ∧ Below w.heap.size w w' := by
  have HP := Lib.hid fun W => partsOf_any l (by omega) W
  obtain ⟨g1, g2, g3⟩ := prtR_le l
  obtain ⟨⟨a, b, c, k⟩, hp⟩ : ∃ p, prtR l = p := ⟨_, rfl⟩
  rw [hp] at HP g1 g2 g3 ⊢
  clear hp
  unfold prtW
  dsimp only at HP g1 g2 g3 ⊢
  have H1 := Lib.hid fun W => clone_any a (by omega) W
  have H2 := Lib.hid fun W => clone_any b (by omega) W
  have H3 := Lib.hid fun W => clone_any c (by omega) W
  clear g1 g2 g3
  obtain ⟨x0, x1, x2⟩ := ix3s ⟨a.toArray⟩ ⟨b.toArray⟩ ⟨c.toArray⟩
  go_enter Tryd.func9, Tryd.ntmps9
  go_wp2_with fail
  refine (HP.out _).mono ?_
  rintro e w1 ⟨rfl, hb⟩
  have hA := CBlk.new 35 w1 [.string ⟨a.toArray⟩, .string ⟨b.toArray⟩, .string ⟨c.toArray⟩]
  have hB := hb.alloc hb.size (.cells [Value.string ⟨a.toArray⟩, .string ⟨b.toArray⟩, .string ⟨c.toArray⟩].toArray 35)
  have hz := hb.size
  go_upto_region 2 with fail
  obtain ⟨A, hAe⟩ : ∃ A, w1.heap.size = A := ⟨_, rfl⟩
  obtain ⟨W0, hW0⟩ : ∃ W0, w1.alloc (.cells #[.string ⟨a.toArray⟩, .string ⟨b.toArray⟩, .string ⟨c.toArray⟩] 35) = W0 := ⟨_, rfl⟩
  rw [hAe] at hA hz ⊢
  have hB : Below w.heap.size w W0 := by rw [← hW0]; exact hB
  rw [hW0] at hA ⊢
  clear hAe hW0 hb
  obtain ⟨c0, c1, c2⟩ := qcells3 hA
  go_wp2_with fail
  refine wp_loop_rounds 4 ?_
  clear c0 c1 c2
  rw [rounds_succ]
  go_wp2_with fail
  refine (H1.out _).mono ?_
  rintro e w2 ⟨rfl, hb⟩
  have hB := hB.trans (hb.mono hB.size)
  have hA := hA.below hb hA.lt
  clear hb
  obtain ⟨c0, c1, c2⟩ := qcells3 hA
  obtain ⟨f0, f1, f2⟩ := qfrees3 hA
  go_wp2_with fail
  clear c0 c1 c2 f0 f1 f2
  have hB := hB.setCell (p := ⟨A, 0, none⟩) hz (.string ⟨a.toArray⟩)
  have hA := hA.set 0 (.string ⟨a.toArray⟩)
  rw [rounds_succ]
  go_wp2_with fail
  refine (H2.out _).mono ?_
  rintro e w3 ⟨rfl, hb⟩
  have hB := hB.trans (hb.mono hB.size)
  have hA := hA.below hb hA.lt
  clear hb
  obtain ⟨c0, c1, c2⟩ := qcells3 hA
  obtain ⟨f0, f1, f2⟩ := qfrees3 hA
  go_wp2_with fail
  clear c0 c1 c2 f0 f1 f2
  have hB := hB.setCell (p := ⟨A, 1, none⟩) hz (.string ⟨b.toArray⟩)
  have hA := hA.set 1 (.string ⟨b.toArray⟩)
  rw [rounds_succ]
  go_wp2_with fail
  refine (H3.out _).mono ?_
  rintro e w4 ⟨rfl, hb⟩
  have hB := hB.trans (hb.mono hB.size)
  have hA := hA.below hb hA.lt
  clear hb
  obtain ⟨c0, c1, c2⟩ := qcells3 hA
  obtain ⟨f0, f1, f2⟩ := qfrees3 hA
  go_wp2_with fail
  clear c0 c1 c2 f0 f1 f2
  have hB := hB.setCell (p := ⟨A, 2, none⟩) hz (.string ⟨c.toArray⟩)
  have hA := hA.set 2 (.string ⟨c.toArray⟩)
  obtain ⟨c0, c1, c2⟩ := qcells3 hA
  rw [rounds_succ]
  go_wp2_with fail
  go_region
  all_goals
    go_wp2_with fail
    exact bodyPost_ret (res4 rfl _ _ _ _ _ _ rfl rfl rfl rfl) rfl ⟨rfl, hB.drew⟩
end Go.Proofs.YtnnldmgdojhejaaDoor
