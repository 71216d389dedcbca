/-
  From a row's list of laid variables, and from the shape of memory, to what the laws need of package-level variables.
-/
import Derived.Test.YtbafmiejgpgamaaGreatDoorCNum
import Derived.Test.YtbafmiejgpgamaaGreatDoorRows
import Derived.Lib.LaidU8
namespace Go.Proofs.YtbafmiejgpgamaaGreatDoor
open Go.RowKit
theorem tab_reads {P : Program} {W : World} {name : String} {k : IntKind} {zs : List Int} {g : Nat} {t e : TypeId} {n : Nat}
    (hg : P.globalNamed name = some g) (hty : (P.globals[g]?).map (·.type) = some t) (ht : P.underlying t = some (.array n e)) (he : P.underlying e = some (.int k)) (hce : P.cellsOf e = 1) (hct : P.cellsOf t = n)
    (h : Lib.VarReads P W name (Lib.tabData k zs)) : Lib.TabIs P W name k zs := by
  obtain ⟨g', t', cs, fuel, p, hg', ht', hvar, hd⟩ := h
  obtain rfl := Option.some.inj (hg.symm.trans hg')
  obtain rfl := Option.some.inj (hty.symm.trans ht')
  unfold Lib.TabIs
  rw [hvar, ← Lib.cells_of_tab ht he hce hct hd]
theorem gTz : Tryz.prog.globalNamed "math/bits.deBruijn64tab" = some 4 := by kernel_rfl
theorem gTzType : (Tryz.prog.globals[4]?).map (·.type) = some 115 := by kernel_rfl
theorem cellsTz : Tryz.prog.cellsOf 115 = 64 := by kernel_rfl
theorem cellsB8 : Tryz.prog.cellsOf 5 = 1 := by kernel_rfl
def tzZ : List Int := Lib.deBruijn64tab.map fun n : Nat => (n : Int)
theorem tzData : (Rows.laid_math_bits_deBruijn64tab : DataW Unit) = Lib.tabData .u8 tzZ := by kernel_rfl
/-- The row of package token's variable, as it is before anything runs. -/
theorem vbRow : (((begin Tryz.prog (fun _ _ => 0) default).world.heap[2]?).bind Obj.row?) = some (#[.int .u64 0, .int .u64 0, .int .u64 0, .int .u64 0], 111) := by kernel_rfl
theorem vbLt : 2 < Tryz.prog.globals.size := by decide +kernel
theorem ntab_of {L : List (String × DataW Unit)} {W : World} (h : laidMet Tryz.prog L W) (m2 : ("math/bits.deBruijn64tab", Rows.laid_math_bits_deBruijn64tab) ∈ L) (hs : W.ShapedOpen Tryz.prog) : NTab W := by
  have r2 := Lib.laidMet.reads h m2
  rw [tzData] at r2
  have t2 := tab_reads gTz gTzType Tryz.underlying115 Tryz.underlying5 cellsB8 cellsTz r2
  refine ⟨fun j hj => ?_, ?_⟩
  · rw [t2.cell gTz j (by rw [show tzZ.length = 64 by decide]; exact hj)]
    have : tzZ.getD j 0 = ((Lib.deBruijn64tab.getD j 0 : Nat) : Int) := by
      simp [tzZ, List.getD, List.getElem?_map]
      cases Lib.deBruijn64tab[j]? <;> rfl
    rw [this]
  · obtain ⟨cs, hc, hz, _⟩ := hs.1 2 _ _ vbLt vbRow
    have hz4 : cs.size = 4 := hz
    have cell : ∀ i (hi : i < 4), W.cell? ⟨2, i, none⟩ = some (cs[i]'(by omega)) := fun i hi => by
      rw [cell_of_row W _ i cs _ _ hc, Array.getElem?_eq_getElem (by omega)]
    exact ⟨_, _, _, _, cell 0 (by omega), cell 1 (by omega), cell 2 (by omega), cell 3 (by omega)⟩
end Go.Proofs.YtbafmiejgpgamaaGreatDoor
