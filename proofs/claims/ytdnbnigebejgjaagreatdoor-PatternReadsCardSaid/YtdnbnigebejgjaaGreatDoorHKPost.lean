/-
  The last step of a law's row: a call behind which nothing that lay in memory has turned meets the row's condition.
-/
import Derived.Test.YtdnbnigebejgjaaGreatDoorRows
import Derived.ProofKit
import Derived.OpenShut
import Derived.ChangeSame
import Derived.Laws.IdiomArrays
import Derived.Carry
import Derived.ChangeMaps5
namespace Go.Proofs.YtdnbnigebejgjaaGreatDoor
open Go.ChangeShapes Go.WideShapes Go.ChangeAt Go.RowKit
section
variable {H : Type} {enc : TypeId × Value → H} {P : Program}
/-- The post of a row out of 'Below': no mark of an older block has turned, so the marks of all addresses need not be the same. -/
theorem post_kept {f : Func} {s : ChangeSpec} {apart fresh handsOn again : Bool} {W W' : World} {args : Array Value} {v : Value} {ds gs : List (DataW H)} {before pa pv : List MemPlace}
    (hW : DataW.Whole enc P f.params.toList s.vars apart W args.toList ds gs before)
    (hr : ∀ (b : Nat) (sp : Nat → Bool) (hd : Bool), DataW.TrodAll enc P W' b sp hd f.resultTypes.toList (v.resultList f.resultTypes.size) (s.fn H (ds ++ gs)).results [])
    (ha : ∀ sp : Nat → Bool, (∀ p ∈ before, sp p.block = true) → DataW.TrodAll enc P W' 0 sp true f.params.toList args.toList (s.fn H (ds ++ gs)).args pa)
    (hv : ∀ sp : Nat → Bool, (∀ p ∈ before, sp p.block = true) → DataW.TrodVars enc P W' sp s.vars (s.fn H (ds ++ gs)).vars pv)
    (hp : before = pa ++ pv) (hB : Below W.heap.size W W')
    (hok : ∀ (j : Nat) (t : TypeId) (r : Value), f.resultTypes[j]? = some t → (v.resultList f.resultTypes.size)[j]? = some r → Value.okWide P W' .any 0 t r) :
    s.post enc P f apart fresh handsOn again W args v W' := by
  subst hp
  have low : ∀ p ∈ pa ++ pv, p.block < W.heap.size := fun p h => hW.lt p h
  have lowB : ∀ p ∈ pa ++ pv, (fun b => decide (b < W.heap.size)) p.block = true := fun p h => decide_eq_true (low p h)
  have all : ∀ p ∈ pa ++ pv, (fun _ : Nat => true) p.block = true := fun _ _ => rfl
  have kept : W.keptBut W' (fun p => p ∈ pa ++ pv ∧ p ∈ [] ++ pa ++ pv) := World.keptBut_mono (fun _ h => ⟨h, h⟩) (hB.frame (· ∈ pa ++ pv))
  obtain ⟨w1, w2, w3, w4, w5, w6, w7⟩ := id hW
  refine ⟨ds, gs, pa ++ pv, [], pa, pv, hW, hr _ _ _, ha _ lowB, hv _ lowB, World.keptBut_mono (fun p h => ⟨h, by simpa using h⟩) (hB.frame (· ∈ pa ++ pv)), fun _ => ⟨hok, _, _, ([] ++ pa) ++ pv, ⟨[] ++ pa, pv, trodAll_append (ha _ all) (hr _ _ _), hv _ all, rfl, fun b o h => ?_, fun h => ?_⟩, fun p h _ => by simpa using h⟩⟩
  · have h' : MemPlace.cell b o ∈ pa ++ pv := by simpa using h
    exact (hB.frozen (p := ⟨b, o, none⟩) (low _ h')).trans (w6 b o h')
  · simpa using w7 h
end
theorem own : ownKnob Tryz.prog.godebug = none := by kernel_rfl
theorem laidOut : laidOutB Tryz.prog = true := by kernel_rfl
end Go.Proofs.YtdnbnigebejgjaaGreatDoor
