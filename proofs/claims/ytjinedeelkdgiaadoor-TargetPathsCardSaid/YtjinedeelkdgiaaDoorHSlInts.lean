/-
  Slices of ints as a law's arguments: what their cells hold. No condition.
-/
import Derived.Test.YtjinedeelkdgiaaDoorHSlGen
namespace Go.Proofs.YtjinedeelkdgiaaDoor
open Go.ChangeShapes Go.WideShapes Go.ChangeAt Go.RowKit Go.Deep
section
variable {H : Type} {enc : TypeId × Value → H} {W : World} {base : Nat}
theorem cellsI : Tryd.prog.cellsOf 3 = 1 := by kernel_rfl
set_option maxRecDepth 100000 in
theorem open_intsF {v : Value} {d : DataW H} {ps : List MemPlace} (hval : Value.okWide Tryd.prog W .any base 44 v) (hd : DataW.Trod enc Tryd.prog W 0 (fun _ => true) true 44 v d ps) :
    ∃ p n c f, v = .slice p n c ∧ (p = none → n = 0 ∧ c = 0) ∧ (∀ j, j < n → -9223372036854775808 ≤ f j ∧ f j ≤ 9223372036854775807) ∧ CellsIn W p (n * 1) (intC f) := by
  obtain ⟨p, n, c, rfl, hp, hall⟩ := open_sliceOf Tryd.underlying44 cellsI hval hd
  obtain ⟨f, hf⟩ := choose_lt (α := Int) (p := fun i m => (-9223372036854775808 ≤ m ∧ m ≤ 9223372036854775807) ∧ ∃ a, p = some a ∧ W.cells? 0 (a.add (i * 1)) 1 = some [.int .i64 m]) (fun i hi => by
    obtain ⟨a, m, cs', y, e, h1, h2⟩ := hall i hi
    obtain ⟨z, rfl, _, hw⟩ := DataW.trod_int Tryd.underlying3 h2
    refine ⟨z, ?_, a, e, h1⟩
    simp [Lit.wf, IntKind.min, IntKind.max, IntKind.bits, IntKind.signed] at hw
    omega)
  refine ⟨p, n, c, f, rfl, hp, fun j hj => (hf j hj).1, ?_⟩
  cases p with
  | none => obtain ⟨rfl, rfl⟩ := hp rfl; exact fun j hj => by simp at hj
  | some a =>
    have h := cellsIn_of_open (a := a) (len := n) (k := 1) (by omega) (fun i _ => .int .i64 (f i)) (fun i hi => by
      obtain ⟨_, a', e, h1⟩ := hf i hi
      injection e with e
      subst e
      exact ⟨_, h1, fun r hr => by obtain rfl : r = 0 := by omega
                                   rfl⟩)
    intro j hj
    obtain ⟨b, off, e, h1, h2⟩ := h j hj
    refine ⟨b, off, e, h1, ?_⟩
    rw [h2]
    show some (Value.int .i64 (f (j / 1))) = some (.int .i64 (f j))
    rw [Nat.div_one]
end
end Go.Proofs.YtjinedeelkdgiaaDoor
