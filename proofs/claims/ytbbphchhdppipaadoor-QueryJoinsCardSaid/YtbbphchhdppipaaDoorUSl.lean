/-
  Slices of api.Pair as a law's arguments: what their cells hold. No condition.
-/
import Derived.Test.YtbbphchhdppipaaDoorSlGen
import Derived.Test.YtbbphchhdppipaaDoorUPrs
import Derived.Deep.Strs
namespace Go.Proofs.YtbbphchhdppipaaDoor
open Go.ChangeShapes Go.WideShapes Go.ChangeAt Go.RowKit Go.Deep
theorem take_one {l : List Value} {k m : Nat} {v : Value} (hm : m = 1) (e : (l.drop k).take m = [v]) : l[k]? = some v := by
  subst hm
  have h : ((l.drop k).take 1)[0]? = [v][0]? := congrArg (fun x : List Value => x[0]?) e
  rw [List.getElem?_take_of_lt (by omega), List.getElem?_drop] at h
  simpa using h
theorem flat_getD {α : Type} (g : α → List Value) (k : Nat) (hk : 0 < k) (hg : ∀ x, (g x).length = k) (d : Value) : ∀ (L : List α) (j : Nat) (h : j / k < L.length), (L.flatMap g).getD j d = (g L[j / k]).getD (j % k) d
  | [], j, h => absurd h (by simp)
  | x :: L, j, h => by
    rw [List.flatMap_cons, List.getD_eq_getElem?_getD]
    by_cases hj : j < k
    · have e : j / k = 0 := Nat.div_eq_of_lt hj
      simp only [e, List.getElem_cons_zero]
      rw [Nat.mod_eq_of_lt hj, List.getElem?_append_left (by rw [hg]; exact hj), List.getD_eq_getElem?_getD]
    · have e1 : j / k = (j - k) / k + 1 := by
        rw [Nat.div_eq_sub_div hk (by omega)]
      have e2 : j % k = (j - k) % k := Nat.mod_eq_sub_mod (by omega)
      have ih := flat_getD g k hk hg d L (j - k) (by rw [e1] at h; simpa using h)
      rw [List.getElem?_append_right (by rw [hg]; omega), hg, ← List.getD_eq_getElem?_getD, ih, e2]
      simp only [e1, List.getElem_cons_succ]
section
variable {H : Type} {enc : TypeId × Value → H} {W : World}
theorem cellsPr : Tryd.prog.cellsOf 40 = 3 := by kernel_rfl
set_option maxRecDepth 100000 in
theorem open_prsF {base : Nat} {v : Value} {d : DataW H} {ps : List MemPlace} (hval : Value.okWide Tryd.prog W .any base 31 v) (hd : DataW.Trod enc Tryd.prog W 0 (fun _ => true) true 31 v d ps) :
    ∃ (L : List Pr) (p : Option Addr) (c : Nat), v = .slice p L.length c ∧ (p = none → c = 0) ∧ L.length ≤ 9223372036854775807 ∧ PrsIn W p L := by
  obtain ⟨a1, len, cap, rfl⟩ := okWide_slice Tryd.underlying31 hval
  obtain ⟨fuel, hf⟩ := hd
  rcases open_slice Tryd.underlying31 hf with ⟨hcs, _⟩ | ⟨a, len', cap', m, n', D, Pl, hcs, _, hl, hm, hmm, _, hall⟩
  · simp [Value.cells] at hcs
    obtain ⟨rfl, rfl, rfl⟩ := hcs
    exact ⟨[], none, 0, rfl, fun _ => rfl, by simp, fun j hj => absurd hj (by simp)⟩
  · simp [Value.cells] at hcs
    obtain ⟨rfl, rfl, rfl⟩ := hcs
    simp only [if_true] at hmm
    rw [cellsPr] at hall
    obtain ⟨f, hf⟩ := choose_lt (n := len) (α := Pr) (p := fun i x => ∃ cs', W.cells? 0 (a.add (i * 3)) 3 = some cs' ∧ ∀ r, r < 3 → cs'[r]? = some ((prC x).getD r (.int .i64 0))) (fun i hi => by
      obtain ⟨cs', h1, h2⟩ := hall i (by omega)
      obtain ⟨y0, y1, y2, k, _, hlen, t0, t1, t2⟩ := trod_struct3 Tryd.underlying40 h2
      obtain ⟨z, e0, -, -⟩ := DataW.trod_string Tryd.underlying9 t0
      obtain ⟨s, e1, -, -⟩ := DataW.trod_string Tryd.underlying9 t1
      obtain ⟨b, e2, -⟩ := DataW.trod_bool Tryd.underlying4 t2
      have g0 : cs'[0]? = some (.string z) := take_one (by kernel_rfl) e0
      have g1 : cs'[1]? = some (.string s) := take_one (by kernel_rfl) e1
      have g2 : cs'[2]? = some (.bool b) := take_one (by kernel_rfl) e2
      refine ⟨⟨z.data.toList, s.data.toList, b⟩, cs', h1, fun r hr => ?_⟩
      match r, hr with
      | 0, _ => exact g0
      | 1, _ => exact g1
      | 2, _ => exact g2)
    have hc := cellsIn_of_open (a := a) (len := len) (k := 3) (by omega) (fun i r => (prC (f i)).getD r (.int .i64 0)) hf
    have hlen : ((List.range len).map f).length = len := by simp
    refine ⟨(List.range len).map f, some a, cap, by rw [hlen], (fun e => by cases e), (by unfold maxLen at hm; rw [hlen]; omega), fun j hj => ?_⟩
    rw [hlen] at hj
    obtain ⟨b, off, e, h1, h2⟩ := hc j hj
    refine ⟨b, off, e, h1, ?_⟩
    rw [h2]
    have hq : j / 3 < ((List.range len).map f).length := by rw [hlen]; omega
    have := flat_getD prC 3 (by omega) (fun x => rfl) (.int .i64 0) ((List.range len).map f) j hq
    unfold prsC
    dsimp only
    rw [this]
    simp
end
end Go.Proofs.YtbbphchhdppipaaDoor
