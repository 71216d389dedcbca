/-
  From a row's list of laid variables to the library's table and the program's signs that package pattern's texts read.
-/
import Derived.Test.YtdnbnigebejgjaaGreatDoorHJT5
import Derived.Test.YtdnbnigebejgjaaGreatDoorRows
import Derived.Lib.LaidU8
import Derived.ChangeArms
import Derived.OpenShut
import Derived.ChangeSame
namespace Go.Proofs.YtdnbnigebejgjaaGreatDoor
open Go.RowKit
theorem jtab_reads {P : Program} {W : World} {name : String} {k : IntKind} {zs : List Int} {g : Nat} {t e : TypeId} {n : Nat}
    (hg : P.globalNamed name = some g) (hty : (P.globals[g]?).map (·.type) = some t) (ht : P.underlying t = some (.array n e)) (he : P.underlying e = some (.int k)) (hce : P.cellsOf e = 1) (hct : P.cellsOf t = n)
    (h : Lib.VarReads P W name (Lib.tabData k zs)) : Lib.TabIs P W name k zs := by
  obtain ⟨g', t', cs, fuel, p, hg', ht', hvar, hd⟩ := h
  obtain rfl := Option.some.inj (hg.symm.trans hg')
  obtain rfl := Option.some.inj (hty.symm.trans ht')
  unfold Lib.TabIs
  rw [hvar, ← Lib.cells_of_tab ht he hce hct hd]
theorem jgTz : Tryz.prog.globalNamed "math/bits.deBruijn64tab" = some 1 := by kernel_rfl
theorem jgTzType : (Tryz.prog.globals[1]?).map (·.type) = some 145 := by kernel_rfl
theorem jcellsTz : Tryz.prog.cellsOf 145 = 64 := by kernel_rfl
theorem jcellsB8 : Tryz.prog.cellsOf 5 = 1 := by kernel_rfl
theorem jcellsStr : Tryz.prog.cellsOf 9 = 1 := by kernel_rfl
def jtzZ : List Int := Lib.deBruijn64tab.map fun n : Nat => (n : Int)
theorem jtzData : (Rows.laid_math_bits_deBruijn64tab : DataW Unit) = Lib.tabData .u8 jtzZ := by kernel_rfl
theorem jgSg : Tryz.prog.globalNamed "waypost/pattern.signs" = some 0 := by kernel_rfl
theorem jgSgType : (Tryz.prog.globals[0]?).map (·.type) = some 93 := by kernel_rfl
theorem tab_of {L : List (String × DataW Unit)} {W : World} (h : laidMet Tryz.prog L W) (m1 : ("math/bits.deBruijn64tab", Rows.laid_math_bits_deBruijn64tab) ∈ L) : Tab W := by
  have r2 := Lib.laidMet.reads h m1
  rw [jtzData] at r2
  have t2 := jtab_reads jgTz jgTzType Tryz.underlying145 Tryz.underlying5 jcellsB8 jcellsTz r2
  intro j hj
  rw [t2.cell jgTz j (by rw [show jtzZ.length = 64 by decide]; exact hj)]
  have : jtzZ.getD j 0 = ((Lib.deBruijn64tab.getD j 0 : Nat) : Int) := by
    simp [jtzZ, List.getD, List.getElem?_map]
    cases Lib.deBruijn64tab[j]? <;> rfl
  rw [this]
set_option maxRecDepth 100000 in
theorem str_cells {H : Type} {enc : TypeId × Value → H} {W : World} {base : Nat} {spare : Nat → Bool} {held : Bool} {fuel : Nat} {cs : List Value} {l : List UInt8} {p : List MemPlace}
    (h : DataW.trod enc Tryz.prog W base spare held fuel 9 cs = some (.lit (.string l), p)) : cs = [.string ⟨l.toArray⟩] := by
  obtain ⟨x, rfl, hx, -⟩ := DataW.trod_string Tryz.underlying9 h
  have e := congrArg Prod.fst hx
  simp at e
  rw [e]
set_option maxRecDepth 100000 in
theorem st_of {L : List (String × DataW Unit)} {W : World} (h : laidMet Tryz.prog L W) (m : ("waypost/pattern.signs", Rows.laid_waypost_pattern_signs) ∈ L) : ST W := by
  obtain ⟨g, t, cs, fuel, p, hg, hty, hvar, hd⟩ := Lib.laidMet.reads h m
  obtain rfl := Option.some.inj (jgSg.symm.trans hg)
  obtain rfl := Option.some.inj (jgSgType.symm.trans hty)
  obtain ⟨xs, n, -, hx, hl, hlen, hf⟩ := DataW.trod_array Tryz.underlying93 hd
  have e := congrArg Prod.fst hx
  match xs, hlen with
  | [x0, x1, x2, x3], _ =>
    simp only [Rows.laid_waypost_pattern_signs, List.map_cons, List.map_nil, DataW.agg.injEq, List.cons.injEq, and_true] at e
    obtain ⟨e0, e1, e2, e3⟩ := e
    rw [jcellsStr] at hf
    intro i hi
    rw [World.var?_cell jgSg hvar]
    have k : ∀ (j : Nat) (l : List UInt8) (q : List MemPlace), DataW.trod (fun _ => ()) Tryz.prog W 0 (fun _ => true) false n 9 ((cs.toList.drop (j * 1)).take 1) = some (.lit (.string l), q) → cs[j]? = some (.string ⟨l.toArray⟩) := by
      intro j l q hq
      have hc := str_cells hq
      have h0 := congrArg (·[0]?) hc
      simp at h0
      exact h0
    match i, hi with
    | 0, _ => exact k 0 [] x0.2 ((hf 0 (by omega)).trans (by simp [e0]))
    | 1, _ => exact k 1 [42] x1.2 ((hf 1 (by omega)).trans (by simp [e1]))
    | 2, _ => exact k 2 [43] x2.2 ((hf 2 (by omega)).trans (by simp [e2]))
    | 3, _ => exact k 3 [63] x3.2 ((hf 3 (by omega)).trans (by simp [e3]))
theorem ts_of {L : List (String × DataW Unit)} {W : World} (h : laidMet Tryz.prog L W) (m1 : ("math/bits.deBruijn64tab", Rows.laid_math_bits_deBruijn64tab) ∈ L) (m2 : ("waypost/pattern.signs", Rows.laid_waypost_pattern_signs) ∈ L) : TS W := by
  have t := tab_of h m1
  exact ⟨t, st_of h m2, block_lt_of_cell (t 0 (by omega))⟩
end Go.Proofs.YtdnbnigebejgjaaGreatDoor
