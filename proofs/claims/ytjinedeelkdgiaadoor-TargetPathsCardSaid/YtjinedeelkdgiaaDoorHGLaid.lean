/-
  From a row's list of laid variables to the table of verdicts that package target's texts read.
-/
import Derived.Test.YtjinedeelkdgiaaDoorHL0
import Derived.Test.YtjinedeelkdgiaaDoorRows
import Derived.Lib.LaidU8
import Derived.OpenShut
import Derived.ChangeSame
namespace Go.Proofs.YtjinedeelkdgiaaDoor
open Go.RowKit
theorem cellsVd : Tryd.prog.cellsOf 55 = 2 := by kernel_rfl
theorem cellsEr : Tryd.prog.cellsOf 23 = 1 := by kernel_rfl
theorem cellsIn : Tryd.prog.cellsOf 3 = 1 := by kernel_rfl
set_option maxRecDepth 100000 in
theorem verdict_cells {H : Type} {enc : TypeId × Value → H} {W : World} {base : Nat} {spare : Nat → Bool} {held : Bool} {fuel : Nat} {cs : List Value} {a b : Int} {p : List MemPlace}
    (h : DataW.trod enc Tryd.prog W base spare held fuel 55 cs = some (.agg [.lit (.int .i64 a), .lit (.int .i64 b)], p)) : cs = [.int .i64 a, .int .i64 b] := by
  obtain ⟨y0, y1, m, hx, hl, h0, h1⟩ := Go.ChangeShapes.trod_struct2 Tryd.underlying55 h
  rw [cellsVd] at hl
  clear h
  obtain ⟨u, v, rfl⟩ : ∃ u v, cs = [u, v] := by
    cases cs with
    | nil => simp at hl
    | cons u r => cases r with
      | nil => simp at hl
      | cons v r => cases r with
        | nil => exact ⟨u, v, rfl⟩
        | cons _ _ => simp at hl
  dsimp only at h0 h1
  rw [cellsEr] at h0
  rw [cellsIn] at h1
  obtain ⟨n0, e0, x0, -⟩ := DataW.trod_int Tryd.underlying23 h0
  obtain ⟨n1, e1, x1, -⟩ := DataW.trod_int Tryd.underlying3 h1
  subst x0 x1
  have e := congrArg Prod.fst hx
  simp at e
  simp at e0 e1
  rw [e0, e1, e.1, e.2]
theorem gVd : Tryd.prog.globalNamed "waypost/target.verdicts" = some 0 := by kernel_rfl
theorem gVdType : (Tryd.prog.globals[0]?).map (·.type) = some 90 := by kernel_rfl
set_option maxRecDepth 100000 in
theorem vt_of {L : List (String × DataW Unit)} {W : World} (h : laidMet Tryd.prog L W) (m : ("waypost/target.verdicts", Rows.laid_waypost_target_verdicts) ∈ L) : VT W := by
  obtain ⟨g, t, cs, fuel, p, hg, hty, hvar, hd⟩ := Lib.laidMet.reads h m
  obtain rfl := Option.some.inj (gVd.symm.trans hg)
  obtain rfl := Option.some.inj (gVdType.symm.trans hty)
  obtain ⟨xs, n, -, hx, hl, hlen, hf⟩ := DataW.trod_array Tryd.underlying90 hd
  have e := congrArg Prod.fst hx
  match xs, hlen with
  | [x0, x1, x2, x3, x4], _ =>
    simp only [Rows.laid_waypost_target_verdicts, List.map_cons, List.map_nil, DataW.agg.injEq, List.cons.injEq, and_true] at e
    obtain ⟨e0, e1, e2, e3, e4⟩ := e
    rw [cellsVd] at hf
    intro i hi
    rw [World.var?_cell gVd hvar, World.var?_cell gVd hvar]
    have k : ∀ (j : Nat) (a b : Int) (q : List MemPlace), DataW.trod (fun _ => ()) Tryd.prog W 0 (fun _ => true) false n 55 ((cs.toList.drop (j * 2)).take 2) = some (.agg [.lit (.int .i64 a), .lit (.int .i64 b)], q) → cs[2 * j]? = some (.int .i64 a) ∧ cs[2 * j + 1]? = some (.int .i64 b) := by
      intro j a b q hq
      have hc := verdict_cells hq
      have h0 := congrArg (·[0]?) hc
      have h1 := congrArg (·[1]?) hc
      simp [Nat.mul_comm j 2] at h0 h1
      exact ⟨h0, h1⟩
    match i, hi with
    | 0, _ => exact k 0 0 200 x0.2 ((hf 0 (by omega)).trans (by simp [e0]))
    | 1, _ => exact k 1 2 0 x1.2 ((hf 1 (by omega)).trans (by simp [e1]))
    | 2, _ => exact k 2 4 414 x2.2 ((hf 2 (by omega)).trans (by simp [e2]))
    | 3, _ => exact k 3 3 400 x3.2 ((hf 3 (by omega)).trans (by simp [e3]))
    | 4, _ => exact k 4 18 400 x4.2 ((hf 4 (by omega)).trans (by simp [e4]))
end Go.Proofs.YtjinedeelkdgiaaDoor
