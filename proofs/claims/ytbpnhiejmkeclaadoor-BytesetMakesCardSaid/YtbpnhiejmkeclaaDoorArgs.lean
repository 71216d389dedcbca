/-
  Sets of bytes as a law's arguments: read out of memory, and read again behind the call. No condition.
-/
import Derived.Test.YtbpnhiejmkeclaaDoorBlk
import Derived.Test.YtbpnhiejmkeclaaDoorPost
import Derived.Carry
import Derived.ChangeMaps5
namespace Go.Proofs.YtbpnhiejmkeclaaDoor
open Go.ChangeShapes Go.WideShapes Go.ChangeAt Go.RowKit
theorem cellsSet : Tryd.prog.cellsOf 24 = 4 := by kernel_rfl
section
variable {H : Type} {enc : TypeId × Value → H} {w : World} {base : Nat} {spare : Nat → Bool} {held : Bool}
/-- A set as the reader reads it. -/
def WSet.dat (H : Type) (s : WSet) : DataW H := .agg [.lit (.int .u64 s.a.toNat), .lit (.int .u64 s.b.toNat), .lit (.int .u64 s.c.toNat), .lit (.int .u64 s.d.toNat)]
theorem wf_word (x : BitVec 64) : (Lit.int .u64 (x.toNat : Int)).wf = true := by
  have := x.isLt
  simp [Lit.wf, IntKind.min, IntKind.max, IntKind.bits, IntKind.signed]
  omega
theorem word_of {n : Int} (h : (Lit.int .u64 n).wf = true) : ∃ x : BitVec 64, n = (x.toNat : Int) := by
  simp [Lit.wf, IntKind.min, IntKind.max, IntKind.bits, IntKind.signed] at h
  refine ⟨BitVec.ofNat 64 n.toNat, ?_⟩
  rw [BitVec.toNat_ofNat]
  omega
theorem open_set {r : Reach} {b0 : Nat} {v : Value} {d : DataW H} {ps : List MemPlace} (hval : Value.okWide Tryd.prog w r b0 24 v) (hd : DataW.Trod enc Tryd.prog w base spare held 24 v d ps) :
    ∃ s : WSet, v = s.v ∧ d = s.dat H ∧ ps = [] := by
  simp only [Value.okWide, Tryd.underlying24] at hval
  obtain ⟨cs, rfl, h2, _⟩ := hval
  obtain ⟨fuel, hf⟩ := hd
  have h4 : cs.toList.length = 4 := by simpa [cellsSet] using h2
  obtain ⟨l⟩ := cs
  obtain ⟨c0, c1, c2, c3, rfl⟩ : ∃ c0 c1 c2 c3, l = [c0, c1, c2, c3] := by
    match l, h4 with
    | [c0, c1, c2, c3], _ => exact ⟨c0, c1, c2, c3, rfl⟩
  obtain ⟨y0, y1, y2, y3, n, hx, h0, h1, h2, h3⟩ := trod_array4 Tryd.underlying24 cellsW hf
  obtain ⟨n0, e0, rfl, g0⟩ := DataW.trod_int Tryd.underlying22 h0
  obtain ⟨n1, e1, rfl, g1⟩ := DataW.trod_int Tryd.underlying22 h1
  obtain ⟨n2, e2, rfl, g2⟩ := DataW.trod_int Tryd.underlying22 h2
  obtain ⟨n3, e3, rfl, g3⟩ := DataW.trod_int Tryd.underlying22 h3
  obtain ⟨x0, rfl⟩ := word_of g0
  obtain ⟨x1, rfl⟩ := word_of g1
  obtain ⟨x2, rfl⟩ := word_of g2
  obtain ⟨x3, rfl⟩ := word_of g3
  simp only [List.cons.injEq, and_true] at e0 e1 e2 e3
  subst e0 e1 e2 e3
  simp only [Prod.mk.injEq] at hx
  exact ⟨⟨x0, x1, x2, x3⟩, rfl, hx.1, by simpa using hx.2⟩
theorem shut_set (s : WSet) : DataW.Trod enc Tryd.prog w base spare held 24 s.v (s.dat H) [] := by
  refine ⟨2, ?_⟩
  have r4 : List.range 4 = [0, 1, 2, 3] := rfl
  simp [DataW.trod, Value.cells, Tryd.underlying24, Tryd.underlying22, cellsW, cellsSet, r4, wf_word, WSet.dat]
end
end Go.Proofs.YtbpnhiejmkeclaaDoor
