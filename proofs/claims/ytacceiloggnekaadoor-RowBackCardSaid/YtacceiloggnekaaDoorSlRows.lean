/-
  Slices of api.Row as a law's arguments: what their cells, and the cells of their words, hold. No condition.
-/
import Derived.Test.YtacceiloggnekaaDoorSlGen
import Derived.Test.YtacceiloggnekaaDoorRAt
import Derived.Deep.Strs
namespace Go.Proofs.YtacceiloggnekaaDoor
open Go.ChangeShapes Go.WideShapes Go.ChangeAt Go.RowKit Go.Deep
theorem flat_getD {α : Type} (g : α → List Value) (k : Nat) (hk : 0 < k) (hg : ∀ x, (g x).length = k) (d : Value) : ∀ (L : List α) (j : Nat) (h : j / k < L.length), (L.flatMap g).getD j d = (g L[j / k]).getD (j % k) d
  | [], j, h => absurd h (by simp)
  | x :: L, j, h => by
    rw [List.flatMap_cons, List.getD_eq_getElem?_getD]
    by_cases hj : j < k
    · have e : j / k = 0 := Nat.div_eq_of_lt hj
      simp only [e, List.getElem_cons_zero]
      rw [Nat.mod_eq_of_lt hj, List.getElem?_append_left (by rw [hg]; exact hj), List.getD_eq_getElem?_getD]
    · have e1 : j / k = (j - k) / k + 1 := by
        rw [Nat.div_eq_sub_div hk (by omega)]
      have e2 : j % k = (j - k) % k := Nat.mod_eq_sub_mod (by omega)
      have ih := flat_getD g k hk hg d L (j - k) (by rw [e1] at h; simpa using h)
      rw [List.getElem?_append_right (by rw [hg]; omega), hg, ← List.getD_eq_getElem?_getD, ih, e2]
      simp only [e1, List.getElem_cons_succ]
theorem take_one {l : List Value} {k m : Nat} {v : Value} (hm : m = 1) (e : (l.drop k).take m = [v]) : l[k]? = some v := by
  subst hm
  have h : ((l.drop k).take 1)[0]? = [v][0]? := congrArg (fun x : List Value => x[0]?) e
  rw [List.getElem?_take_of_lt (by omega), List.getElem?_drop] at h
  simpa using h
section
variable {H : Type} {enc : TypeId × Value → H} {W : World}
theorem cellsWd : Tryd.prog.cellsOf 47 = 3 := by kernel_rfl
theorem cellsRw : Tryd.prog.cellsOf 45 = 2 := by kernel_rfl
instance : Inhabited Wd := ⟨⟨0, [], false⟩⟩
instance : Inhabited (Rw × Value) := ⟨⟨⟨0, []⟩, .int .i64 0⟩⟩
set_option maxRecDepth 100000 in
theorem words_of_trod {n : Nat} {cs : List Value} {y : DataW H × List MemPlace} (h : DataW.trod enc Tryd.prog W 0 (fun _ => true) true n 43 cs = some y) : ∃ v ws, cs = [v] ∧ WordsAt W v ws := by
  rcases open_slice Tryd.underlying43 h with ⟨rfl, _⟩ | ⟨a, len, cap, m, n', D, Pl, rfl, _, hl, hm, hmm, _, hall⟩
  · exact ⟨_, [], rfl, none, 0, rfl, fun j hj => absurd hj (by simp)⟩
  · simp only [if_true] at hmm
    rw [cellsWd] at hall
    obtain ⟨f, hf⟩ := choose_lt (n := len) (α := Wd) (p := fun i x => ∃ cs', W.cells? 0 (a.add (i * 3)) 3 = some cs' ∧ ∀ r, r < 3 → cs'[r]? = some ((wdC x).getD r (.int .i64 0))) (fun i hi => by
      obtain ⟨cs', h1, h2⟩ := hall i (by omega)
      obtain ⟨y0, y1, y2, k, _, hlen, t0, t1, t2⟩ := trod_struct3 Tryd.underlying47 h2
      obtain ⟨z, e0, -, -⟩ := DataW.trod_int Tryd.underlying3 t0
      obtain ⟨s, e1, -, -⟩ := DataW.trod_string Tryd.underlying9 t1
      obtain ⟨b, e2, -⟩ := DataW.trod_bool Tryd.underlying4 t2
      have g0 : cs'[0]? = some (.int .i64 z) := take_one (by kernel_rfl) e0
      have g1 : cs'[1]? = some (.string s) := take_one (by kernel_rfl) e1
      have g2 : cs'[2]? = some (.bool b) := take_one (by kernel_rfl) e2
      refine ⟨⟨z, s.data.toList, b⟩, cs', h1, fun r hr => ?_⟩
      match r, hr with
      | 0, _ => exact g0
      | 1, _ => exact g1
      | 2, _ => exact g2)
    have hc := cellsIn_of_open (a := a) (len := len) (k := 3) (by omega) (fun i r => (wdC (f i)).getD r (.int .i64 0)) hf
    refine ⟨_, (List.range len).map f, rfl, some a, cap, by simp, fun j hj => ?_⟩
    simp only [List.length_map, List.length_range] at hj
    obtain ⟨b, off, e, h1, h2⟩ := hc j hj
    refine ⟨b, off, e, h1, ?_⟩
    rw [h2]
    have hq : j / 3 < ((List.range len).map f).length := by simp; omega
    have := flat_getD wdC 3 (by omega) (fun x => rfl) (.int .i64 0) ((List.range len).map f) j hq
    unfold wdsC
    dsimp only
    rw [this]
    simp
def rowC (x : Rw × Value) : List Value := [.int .i64 x.1.pos, x.2]
theorem rowCs_of : ∀ L : List (Rw × Value), (∀ x ∈ L, WordsAt W x.2 x.1.words) → RowCs W (L.flatMap rowC) (L.map Prod.fst)
  | [], _ => trivial
  | x :: L, h => ⟨rfl, h x (by simp), rowCs_of L (fun y hy => h y (by simp [hy]))⟩
set_option maxRecDepth 100000 in
theorem open_rowsF {base : Nat} {v : Value} {d : DataW H} {ps : List MemPlace} (hval : Value.okWide Tryd.prog W .any base 23 v) (hd : DataW.Trod enc Tryd.prog W 0 (fun _ => true) true 23 v d ps) :
    ∃ rs, RowsAt W v rs := by
  obtain ⟨p, n, c, rfl, hp, hall⟩ := open_sliceOf Tryd.underlying23 cellsRw hval hd
  cases p with
  | none =>
    obtain ⟨rfl, rfl⟩ := hp rfl
    exact ⟨[], RowsAt.nil W⟩
  | some a =>
    obtain ⟨f, hf⟩ := choose_lt (n := n) (α := Rw × Value) (p := fun i x => WordsAt W x.2 x.1.words ∧ ∃ cs', W.cells? 0 (a.add (i * 2)) 2 = some cs' ∧ ∀ r, r < 2 → cs'[r]? = some ((rowC x).getD r (.int .i64 0))) (fun i hi => by
      obtain ⟨a', m, cs', y, e, h1, h2⟩ := hall i hi
      injection e with e
      subst e
      obtain ⟨y0, y1, k, _, hlen, t0, t1⟩ := trod_struct2 Tryd.underlying45 h2
      obtain ⟨z, e0, -, -⟩ := DataW.trod_int Tryd.underlying3 t0
      obtain ⟨vv, ws, e1, hws⟩ := words_of_trod t1
      have g0 : cs'[0]? = some (.int .i64 z) := take_one (by kernel_rfl) e0
      have g1 : cs'[1]? = some vv := take_one (by kernel_rfl) e1
      refine ⟨⟨⟨z, ws⟩, vv⟩, hws, cs', h1, fun r hr => ?_⟩
      match r, hr with
      | 0, _ => exact g0
      | 1, _ => exact g1)
    have hc := cellsIn_of_open (a := a) (len := n) (k := 2) (by omega) (fun i r => (rowC (f i)).getD r (.int .i64 0)) (fun i hi => (hf i hi).2)
    refine ⟨((List.range n).map f).map Prod.fst, some a, c, ((List.range n).map f).flatMap rowC, by simp, rowCs_of _ (fun x hx => ?_), fun j hj => ?_⟩
    · obtain ⟨i, hi, rfl⟩ := List.mem_map.1 hx
      exact (hf i (List.mem_range.1 hi)).1
    · simp only [List.length_map, List.length_range] at hj
      obtain ⟨b, off, e, h1, h2⟩ := hc j hj
      refine ⟨b, off, e, h1, ?_⟩
      rw [h2]
      have hq : j / 2 < ((List.range n).map f).length := by simp; omega
      have := flat_getD rowC 2 (by omega) (fun x => rfl) (.int .i64 0) ((List.range n).map f) j hq
      dsimp only
      rw [this]
      simp
end
end Go.Proofs.YtacceiloggnekaaDoor
