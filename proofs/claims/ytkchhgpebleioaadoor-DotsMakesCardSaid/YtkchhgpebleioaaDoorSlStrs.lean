/-
  Slices of strings as a law's arguments: what their cells hold. No condition.
-/
import Derived.Test.YtkchhgpebleioaaDoorSlGen
namespace Go.Proofs.YtkchhgpebleioaaDoor
open Go.ChangeShapes Go.WideShapes Go.ChangeAt Go.RowKit Go.Deep
section
variable {H : Type} {enc : TypeId × Value → H} {W : World} {base : Nat}
theorem cellsS : Tryd.prog.cellsOf 9 = 1 := by kernel_rfl
set_option maxRecDepth 100000 in
theorem open_strsF {v : Value} {d : DataW H} {ps : List MemPlace} (hval : Value.okWide Tryd.prog W .any base 26 v) (hd : DataW.Trod enc Tryd.prog W 0 (fun _ => true) true 26 v d ps) :
    ∃ p n c f, v = .slice p n c ∧ (p = none → n = 0 ∧ c = 0) ∧ CellsIn W p (n * 1) (strC f) := by
  obtain ⟨p, n, c, rfl, hp, hall⟩ := open_sliceOf Tryd.underlying26 cellsS hval hd
  obtain ⟨f, hf⟩ := choose_lt (α := List UInt8) (p := fun i m => ∃ a, p = some a ∧ W.cells? 0 (a.add (i * 1)) 1 = some [.string ⟨m.toArray⟩]) (fun i hi => by
    obtain ⟨a, m, cs', y, e, h1, h2⟩ := hall i hi
    obtain ⟨z, rfl, _, hw⟩ := DataW.trod_string Tryd.underlying9 h2
    exact ⟨z.data.toList, a, e, by rw [h1]⟩)
  refine ⟨p, n, c, f, rfl, hp, ?_⟩
  cases p with
  | none => obtain ⟨rfl, rfl⟩ := hp rfl; exact fun j hj => by simp at hj
  | some a =>
    have h := cellsIn_of_open (a := a) (len := n) (k := 1) (by omega) (fun i _ => .string ⟨(f i).toArray⟩) (fun i hi => by
      obtain ⟨a', e, h1⟩ := hf i hi
      injection e with e
      subst e
      exact ⟨_, h1, fun r hr => by obtain rfl : r = 0 := by omega
                                   rfl⟩)
    intro j hj
    obtain ⟨b, off, e, h1, h2⟩ := h j hj
    refine ⟨b, off, e, h1, ?_⟩
    rw [h2]
    show some (Value.string ⟨(f (j / 1)).toArray⟩) = some (.string ⟨(f j).toArray⟩)
    rw [Nat.div_one]
end
end Go.Proofs.YtkchhgpebleioaaDoor
