/-
  Splitters, slices of lines and of ints as a law's arguments: what they hold. No condition.
-/
import Derived.Test.YtfagjhadfonhdaaSlInts
import Derived.Test.YtfagjhadfonhdaaLJoin
import Derived.Deep.Strs
namespace Go.Proofs.Ytfagjhadfonhdaa
open Go.ChangeShapes Go.WideShapes Go.ChangeAt Go.RowKit Go.Deep
theorem ltake_one {l : List Value} {k m : Nat} {v : Value} (hm : m = 1) (e : (l.drop k).take m = [v]) : l[k]? = some v := by
  subst hm
  have h : ((l.drop k).take 1)[0]? = [v][0]? := congrArg (fun x : List Value => x[0]?) e
  rw [List.getElem?_take_of_lt (by omega), List.getElem?_drop] at h
  simpa using h
theorem lnsC_getD : ∀ (L : List Ln) (j : Nat) (h : j / 2 < L.length), (lnsC L).getD j (.int .i64 0) = [Value.string ⟨(L[j / 2]).tx.toArray⟩, .bool (L[j / 2]).gd].getD (j % 2) (.int .i64 0) := by
  intro L j h
  have h1 := lnsC_at L (j / 2) h
  rw [List.getD_eq_getElem?_getD, List.getD_eq_getElem?_getD]
  rcases Nat.mod_two_eq_zero_or_one j with e | e
  · have : j = j / 2 * 2 := by omega
    rw [e]
    conv => lhs; rw [this]
    rw [h1.1]
    rfl
  · have : j = j / 2 * 2 + 1 := by omega
    rw [e]
    conv => lhs; rw [this]
    rw [h1.2]
    rfl
section
variable {H : Type} {enc : TypeId × Value → H} {W : World} {base : Nat}
theorem cellsSp : Try.prog.cellsOf 24 = 3 := by kernel_rfl
theorem cellsLn : Try.prog.cellsOf 27 = 2 := by kernel_rfl
instance : Inhabited Ln := ⟨⟨[], false⟩⟩
set_option maxRecDepth 100000 in
theorem open_sp {v : Value} {d : DataW H} {ps : List MemPlace} (hval : Value.okWide Try.prog W .any base 24 v) (hd : DataW.Trod enc Try.prog W 0 (fun _ => true) true 24 v d ps) :
    ∃ s : Sp, v = spV s := by
  simp only [Value.okWide, Try.underlying24] at hval
  obtain ⟨cs, rfl, h2, _⟩ := hval
  obtain ⟨fuel, hf⟩ := hd
  have h3 : cs.toList.length = 3 := by simpa [cellsSp] using h2
  obtain ⟨l⟩ := cs
  obtain ⟨c0, c1, c2, rfl⟩ : ∃ c0 c1 c2, l = [c0, c1, c2] := by
    match l, h3 with
    | [c0, c1, c2], _ => exact ⟨c0, c1, c2, rfl⟩
  obtain ⟨y0, y1, y2, n, _, _, t0, t1, t2⟩ := trod_struct3 Try.underlying24 hf
  obtain ⟨z, e0, -, -⟩ := DataW.trod_int Try.underlying3 t0
  obtain ⟨s, e1, -, -⟩ := DataW.trod_string Try.underlying9 t1
  obtain ⟨b, e2, -⟩ := DataW.trod_bool Try.underlying4 t2
  have g0 : ([c0, c1, c2] : List Value)[0]? = some (.int .i64 z) := ltake_one (by kernel_rfl) e0
  have g1 : ([c0, c1, c2] : List Value)[1]? = some (.string s) := ltake_one (by kernel_rfl) e1
  have g2 : ([c0, c1, c2] : List Value)[2]? = some (.bool b) := ltake_one (by kernel_rfl) e2
  simp at g0 g1 g2
  subst g0 g1 g2
  exact ⟨⟨z, s.data.toList, b⟩, rfl⟩
set_option maxRecDepth 100000 in
theorem open_lnsF {v : Value} {d : DataW H} {ps : List MemPlace} (hval : Value.okWide Try.prog W .any base 32 v) (hd : DataW.Trod enc Try.prog W 0 (fun _ => true) true 32 v d ps) :
    ∃ (L : List Ln) (p : Option Addr) (c : Nat), v = .slice p L.length c ∧ (p = none → c = 0) ∧ LnsIn W p L := by
  obtain ⟨p, n, c, rfl, hp, hall⟩ := open_sliceOf Try.underlying32 cellsLn hval hd
  cases p with
  | none =>
    obtain ⟨rfl, rfl⟩ := hp rfl
    exact ⟨[], none, 0, rfl, fun _ => rfl, fun j hj => absurd hj (by simp)⟩
  | some a =>
    obtain ⟨f, hf⟩ := choose_lt (n := n) (α := Ln) (p := fun i x => ∃ cs', W.cells? 0 (a.add (i * 2)) 2 = some cs' ∧ ∀ r, r < 2 → cs'[r]? = some ([Value.string ⟨x.tx.toArray⟩, .bool x.gd].getD r (.int .i64 0))) (fun i hi => by
      obtain ⟨a', m, cs', y, e, h1, h2⟩ := hall i hi
      injection e with e
      subst e
      obtain ⟨y0, y1, k, _, hlen, t0, t1⟩ := trod_struct2 Try.underlying27 h2
      obtain ⟨s, e0, -, -⟩ := DataW.trod_string Try.underlying9 t0
      obtain ⟨b, e1, -⟩ := DataW.trod_bool Try.underlying4 t1
      have g0 : cs'[0]? = some (.string s) := ltake_one (by kernel_rfl) e0
      have g1 : cs'[1]? = some (.bool b) := ltake_one (by kernel_rfl) e1
      refine ⟨⟨s.data.toList, b⟩, cs', h1, fun r hr => ?_⟩
      match r, hr with
      | 0, _ => exact g0
      | 1, _ => exact g1)
    have hc := cellsIn_of_open (a := a) (len := n) (k := 2) (by omega) (fun i r => [Value.string ⟨(f i).tx.toArray⟩, .bool (f i).gd].getD r (.int .i64 0)) hf
    refine ⟨(List.range n).map f, some a, c, by simp, (fun e => by cases e), fun j hj => ?_⟩
    simp only [List.length_map, List.length_range] at hj
    obtain ⟨b, off, e, h1, h2⟩ := hc j hj
    refine ⟨b, off, e, h1, ?_⟩
    rw [h2]
    have hq : j / 2 < ((List.range n).map f).length := by simp; omega
    have := lnsC_getD ((List.range n).map f) j hq
    dsimp only
    rw [this]
    simp
theorem ints_list {p : Option Addr} {n : Nat} {f : Nat → Int} (h : CellsIn W p (n * 1) (intC f)) : CellsIn W p (((List.range n).map f).length * 1) (intC fun j => ((List.range n).map f).getD j 0) := by
  intro j hj
  simp only [List.length_map, List.length_range] at hj
  obtain ⟨b, off, e, h1, h2⟩ := h j hj
  refine ⟨b, off, e, h1, ?_⟩
  rw [h2]
  have hq : j < ((List.range n).map f).length := by simp; omega
  unfold intC
  dsimp only
  rw [List.getD_eq_getElem?_getD, List.getElem?_eq_getElem hq]
  simp
theorem ints_len (n : Nat) (f : Nat → Int) : ((List.range n).map f).length = n := by simp
end
end Go.Proofs.Ytfagjhadfonhdaa
