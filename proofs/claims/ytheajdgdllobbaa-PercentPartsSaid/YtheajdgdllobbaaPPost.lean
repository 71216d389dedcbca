/-
  The last step of a law's row: a call behind which nothing that lay in memory has turned meets the row's condition; sets of bytes as arguments are opened and shut.
-/
import Derived.Test.YtheajdgdllobbaaRows
import Derived.Test.YtheajdgdllobbaaBlk
import Derived.ProofKit
import Derived.OpenShut
import Derived.ChangeSame
import Derived.Laws.IdiomArrays
import Derived.Carry
import Derived.ChangeMaps5
namespace Go.Proofs.Ytheajdgdllobbaa
open Go.ChangeShapes Go.WideShapes Go.ChangeAt Go.RowKit
section
variable {H : Type} {enc : TypeId × Value → H} {P : Program}
/-- The post of a row out of 'Below': no mark of an older block has turned, so the marks of all addresses need not be the same. -/
theorem post_kept {f : Func} {s : ChangeSpec} {apart fresh handsOn again : Bool} {W W' : World} {args : Array Value} {v : Value} {ds gs : List (DataW H)} {before pa pv : List MemPlace}
    (hW : DataW.Whole enc P f.params.toList s.vars apart W args.toList ds gs before)
    (hr : ∀ (b : Nat) (sp : Nat → Bool) (hd : Bool), DataW.TrodAll enc P W' b sp hd f.resultTypes.toList (v.resultList f.resultTypes.size) (s.fn H (ds ++ gs)).results [])
    (ha : ∀ sp : Nat → Bool, (∀ p ∈ before, sp p.block = true) → DataW.TrodAll enc P W' 0 sp true f.params.toList args.toList (s.fn H (ds ++ gs)).args pa)
    (hv : ∀ sp : Nat → Bool, (∀ p ∈ before, sp p.block = true) → DataW.TrodVars enc P W' sp s.vars (s.fn H (ds ++ gs)).vars pv)
    (hp : before = pa ++ pv) (hB : Below W.heap.size W W')
    (hok : ∀ (j : Nat) (t : TypeId) (r : Value), f.resultTypes[j]? = some t → (v.resultList f.resultTypes.size)[j]? = some r → Value.okWide P W' .any 0 t r) :
    s.post enc P f apart fresh handsOn again W args v W' := by
  subst hp
  have low : ∀ p ∈ pa ++ pv, p.block < W.heap.size := fun p h => hW.lt p h
  have lowB : ∀ p ∈ pa ++ pv, (fun b => decide (b < W.heap.size)) p.block = true := fun p h => decide_eq_true (low p h)
  have all : ∀ p ∈ pa ++ pv, (fun _ : Nat => true) p.block = true := fun _ _ => rfl
  have kept : W.keptBut W' (fun p => p ∈ pa ++ pv ∧ p ∈ [] ++ pa ++ pv) := World.keptBut_mono (fun _ h => ⟨h, h⟩) (hB.frame (· ∈ pa ++ pv))
  obtain ⟨w1, w2, w3, w4, w5, w6, w7⟩ := id hW
  refine ⟨ds, gs, pa ++ pv, [], pa, pv, hW, hr _ _ _, ha _ lowB, hv _ lowB, World.keptBut_mono (fun p h => ⟨h, by simpa using h⟩) (hB.frame (· ∈ pa ++ pv)), fun _ => ⟨hok, _, _, ([] ++ pa) ++ pv, ⟨[] ++ pa, pv, trodAll_append (ha _ all) (hr _ _ _), hv _ all, rfl, fun b o h => ?_, fun h => ?_⟩, fun p h _ => by simpa using h⟩⟩
  · have h' : MemPlace.cell b o ∈ pa ++ pv := by simpa using h
    exact (hB.frozen (p := ⟨b, o, none⟩) (low _ h')).trans (w6 b o h')
  · simpa using w7 h
end
theorem own : ownKnob Try.prog.godebug = none := by kernel_rfl
theorem cellsW : Try.prog.cellsOf 22 = 1 := by kernel_rfl
theorem laidOut : laidOutB Try.prog = true := by kernel_rfl
theorem cellsSet : Try.prog.cellsOf 24 = 4 := by kernel_rfl
section
variable {H : Type} {enc : TypeId × Value → H} {w : World} {base : Nat} {spare : Nat → Bool} {held : Bool}
/-- A set as the reader reads it. -/
def WSet.dat (H : Type) (s : WSet) : DataW H := .agg [.lit (.int .u64 s.a.toNat), .lit (.int .u64 s.b.toNat), .lit (.int .u64 s.c.toNat), .lit (.int .u64 s.d.toNat)]
theorem wf_word (x : BitVec 64) : (Lit.int .u64 (x.toNat : Int)).wf = true := by
  have := x.isLt
  simp [Lit.wf, IntKind.min, IntKind.max, IntKind.bits, IntKind.signed]
  omega
theorem word_of {n : Int} (h : (Lit.int .u64 n).wf = true) : ∃ x : BitVec 64, n = (x.toNat : Int) := by
  simp [Lit.wf, IntKind.min, IntKind.max, IntKind.bits, IntKind.signed] at h
  refine ⟨BitVec.ofNat 64 n.toNat, ?_⟩
  rw [BitVec.toNat_ofNat]
  omega
theorem open_set {r : Reach} {b0 : Nat} {v : Value} {d : DataW H} {ps : List MemPlace} (hval : Value.okWide Try.prog w r b0 24 v) (hd : DataW.Trod enc Try.prog w base spare held 24 v d ps) :
    ∃ s : WSet, v = s.v ∧ d = s.dat H ∧ ps = [] := by
  simp only [Value.okWide, Try.underlying24] at hval
  obtain ⟨cs, rfl, h2, _⟩ := hval
  obtain ⟨fuel, hf⟩ := hd
  have h4 : cs.toList.length = 4 := by simpa [cellsSet] using h2
  obtain ⟨l⟩ := cs
  obtain ⟨c0, c1, c2, c3, rfl⟩ : ∃ c0 c1 c2 c3, l = [c0, c1, c2, c3] := by
    match l, h4 with
    | [c0, c1, c2, c3], _ => exact ⟨c0, c1, c2, c3, rfl⟩
  obtain ⟨y0, y1, y2, y3, n, hx, h0, h1, h2, h3⟩ := trod_array4 Try.underlying24 cellsW hf
  obtain ⟨n0, e0, rfl, g0⟩ := DataW.trod_int Try.underlying22 h0
  obtain ⟨n1, e1, rfl, g1⟩ := DataW.trod_int Try.underlying22 h1
  obtain ⟨n2, e2, rfl, g2⟩ := DataW.trod_int Try.underlying22 h2
  obtain ⟨n3, e3, rfl, g3⟩ := DataW.trod_int Try.underlying22 h3
  obtain ⟨x0, rfl⟩ := word_of g0
  obtain ⟨x1, rfl⟩ := word_of g1
  obtain ⟨x2, rfl⟩ := word_of g2
  obtain ⟨x3, rfl⟩ := word_of g3
  simp only [List.cons.injEq, and_true] at e0 e1 e2 e3
  subst e0 e1 e2 e3
  simp only [Prod.mk.injEq] at hx
  exact ⟨⟨x0, x1, x2, x3⟩, rfl, hx.1, by simpa using hx.2⟩
theorem shut_set (s : WSet) : DataW.Trod enc Try.prog w base spare held 24 s.v (s.dat H) [] := by
  refine ⟨2, ?_⟩
  have r4 : List.range 4 = [0, 1, 2, 3] := rfl
  simp [DataW.trod, Value.cells, Try.underlying24, Try.underlying22, cellsW, cellsSet, r4, wf_word, WSet.dat]
end
end Go.Proofs.Ytheajdgdllobbaa
