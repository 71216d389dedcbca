/-
  The map of a decoder's methods: how it is made, and what is found in it. Decoders as they are made and read.
-/
import Derived.Test.YtbafmiejgpgamaaGreatDoorCMeth3
namespace Go.Proofs.YtbafmiejgpgamaaGreatDoor
open Go.RowKit
theorem key_plain (P : Program) (t : TypeId) (k : Int) (b : Bool) (w : World) (ht : P.underlying t = some (.int .i64)) : (Instr.checkKey b (9999 + 1) t (.int .i64 k)).run P w = .ok () w := by
  rw [Instr.checkKey]
  simp [run_underlying ht]
theorem find_run (P : Program) (t : TypeId) (k : Int) (es : List MapEntry) (w : World) (ht : P.underlying t = some (.int .i64)) (r : Option (Nat × Value)) (hf : Instr.findNow (.int .i64) (.int .i64 k) es 0 = some r) : (Instr.findKey t (.int .i64 k) es).run P w = .ok r w := by
  simp [Instr.findKey, run_underlying ht, hf]
theorem set_run {P : Program} {w : World} {r : Nat} {es : Array MapEntry} {c : Nat} (o : Obj) (hb : w.heap[r]? = some (.map es c)) : (setObj r o).run P w = .ok () { w with heap := w.heap.setIfInBounds r o } := by
  simp [setObj, Sem.run, hb]
theorem push_set (w : World) (o o' : Obj) : ({ (w.alloc o) with heap := (w.alloc o).heap.setIfInBounds w.heap.size o' } : World) = w.alloc o' := by
  show ({ w with heap := (w.heap.push o).setIfInBounds w.heap.size o' } : World) = { w with heap := w.heap.push o' }
  have h : (w.heap.push o).setIfInBounds w.heap.size o' = w.heap.push o' := by
    apply Array.ext'
    rw [Array.toList_setIfInBounds, Array.toList_push, Array.toList_push, List.set_append_right _ _ (by simp)]
    simp
  rw [h]
theorem ins_eq (w : World) (es : Array MapEntry) (c : Nat) (k : Int) (v : Value) (hf : Instr.findNow (.int .i64) (.int .i64 k) es.toList 0 = some none) :
    (Instr.mapUpdate 65 (.map (some w.heap.size)) (.int .i64 k) v).run Tryz.prog (w.alloc (.map es c)) = .ok () (w.alloc (.map (es.push { key := .int .i64 k, val := v, born := c }) (c + 1))) := by
  have h1 := fun w b => key_plain Tryz.prog 3 k b w Tryz.underlying3
  have h2 := fun w => find_run Tryz.prog 3 k es.toList w Tryz.underlying3 none hf
  have hk : (w.alloc (.map es c)).heap[w.heap.size]? = some (.map es c) := heap_alloc_new w _
  have h3 := run_getObj_map (P := Tryz.prog) (w := w.alloc (.map es c)) (r := w.heap.size) (es := es) (clock := c) hk
  have h4 : ∀ o, (setObj w.heap.size o).run Tryz.prog (w.alloc (.map es c)) = .ok () (w.alloc o) := fun o => (set_run o hk).trans (by rw [push_set])
  simp [Instr.mapUpdate, run_underlying Tryz.underlying65, h1, h2, h3, h4]
theorem look_eq (w : World) (b : Nat) (es : Array MapEntry) (c : Nat) (k : Int) (v : Value) (i : Nat) (hb : w.heap[b]? = some (.map es c)) (hf : Instr.findNow (.int .i64) (.int .i64 k) es.toList 0 = some (some (i, v))) :
    (Instr.lookup 65 (.map (some b)) (.int .i64 k) false).run Tryz.prog w = .ok v w := by
  have h1 := fun w b => key_plain Tryz.prog 3 k b w Tryz.underlying3
  have h2 := fun w => find_run Tryz.prog 3 k es.toList w Tryz.underlying3 _ hf
  have h3 := run_getObj_map (P := Tryz.prog) (w := w) (r := b) (es := es) (clock := c) hb
  simp [Instr.lookup, run_underlying Tryz.underlying65, h1, h2, h3]
def meths : Array MapEntry := #[{ key := .int .i64 0, val := .func (.func 54) #[] #[], born := 0 }, { key := .int .i64 1, val := .func (.func 55) #[] #[], born := 1 }, { key := .int .i64 2, val := .func (.func 56) #[] #[], born := 2 }, { key := .int .i64 3, val := .func (.func 57) #[] #[], born := 3 }, { key := .int .i64 4, val := .func (.func 58) #[] #[], born := 4 }, { key := .int .i64 5, val := .func (.func 59) #[] #[], born := 5 }, { key := .int .i64 6, val := .func (.func 60) #[] #[], born := 6 }]
set_option maxHeartbeats 2000000 in
theorem handlers_any (w : World) :
    Calls Tryz.prog 37 #[] w fun e w' => e = .returned (.map (some w.heap.size)) ∧ w' = w.alloc (.map meths 7) := by
  have hmm := @run_makeMap Tryz.prog
  have i0 := fun v => ins_eq w #[] 0 0 v rfl
  have i1 := fun v => ins_eq w #[{ key := .int .i64 0, val := .func (.func 54) #[] #[], born := 0 }] 1 1 v rfl
  have i2 := fun v => ins_eq w #[{ key := .int .i64 0, val := .func (.func 54) #[] #[], born := 0 }, { key := .int .i64 1, val := .func (.func 55) #[] #[], born := 1 }] 2 2 v rfl
  have i3 := fun v => ins_eq w #[{ key := .int .i64 0, val := .func (.func 54) #[] #[], born := 0 }, { key := .int .i64 1, val := .func (.func 55) #[] #[], born := 1 }, { key := .int .i64 2, val := .func (.func 56) #[] #[], born := 2 }] 3 3 v rfl
  have i4 := fun v => ins_eq w #[{ key := .int .i64 0, val := .func (.func 54) #[] #[], born := 0 }, { key := .int .i64 1, val := .func (.func 55) #[] #[], born := 1 }, { key := .int .i64 2, val := .func (.func 56) #[] #[], born := 2 }, { key := .int .i64 3, val := .func (.func 57) #[] #[], born := 3 }] 4 4 v rfl
  have i5 := fun v => ins_eq w #[{ key := .int .i64 0, val := .func (.func 54) #[] #[], born := 0 }, { key := .int .i64 1, val := .func (.func 55) #[] #[], born := 1 }, { key := .int .i64 2, val := .func (.func 56) #[] #[], born := 2 }, { key := .int .i64 3, val := .func (.func 57) #[] #[], born := 3 }, { key := .int .i64 4, val := .func (.func 58) #[] #[], born := 4 }] 5 5 v rfl
  have i6 := fun v => ins_eq w #[{ key := .int .i64 0, val := .func (.func 54) #[] #[], born := 0 }, { key := .int .i64 1, val := .func (.func 55) #[] #[], born := 1 }, { key := .int .i64 2, val := .func (.func 56) #[] #[], born := 2 }, { key := .int .i64 3, val := .func (.func 57) #[] #[], born := 3 }, { key := .int .i64 4, val := .func (.func 58) #[] #[], born := 4 }, { key := .int .i64 5, val := .func (.func 59) #[] #[], born := 5 }] 6 6 v rfl
  go_enter Tryz.func37, Tryz.ntmps37
  set_option maxRecDepth 10000 in
  go_wp2_with fail
  go_ret
  exact ⟨rfl, rfl⟩
end Go.Proofs.YtbafmiejgpgamaaGreatDoor
