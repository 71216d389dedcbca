/-
  From a row's list of laid variables to the two tables that package number's texts read.
-/
import Derived.Test.YtekbahpobhjobaaDoorNLay
import Derived.Test.YtekbahpobhjobaaDoorRows
import Derived.Lib.LaidU8
namespace Go.Proofs.YtekbahpobhjobaaDoor
open Go.RowKit
theorem tab_reads {P : Program} {W : World} {name : String} {k : IntKind} {zs : List Int} {g : Nat} {t e : TypeId} {n : Nat}
    (hg : P.globalNamed name = some g) (hty : (P.globals[g]?).map (·.type) = some t) (ht : P.underlying t = some (.array n e)) (he : P.underlying e = some (.int k)) (hce : P.cellsOf e = 1) (hct : P.cellsOf t = n)
    (h : Lib.VarReads P W name (Lib.tabData k zs)) : Lib.TabIs P W name k zs := by
  obtain ⟨g', t', cs, fuel, p, hg', ht', hvar, hd⟩ := h
  obtain rfl := Option.some.inj (hg.symm.trans hg')
  obtain rfl := Option.some.inj (hty.symm.trans ht')
  unfold Lib.TabIs
  rw [hvar, ← Lib.cells_of_tab ht he hce hct hd]
theorem gPow : Tryd.prog.globalNamed "internal/strconv.uint64pow10" = some 0 := by kernel_rfl
theorem gPowType : (Tryd.prog.globals[0]?).map (·.type) = some 80 := by kernel_rfl
theorem gTz : Tryd.prog.globalNamed "math/bits.deBruijn64tab" = some 4 := by kernel_rfl
theorem gTzType : (Tryd.prog.globals[4]?).map (·.type) = some 91 := by kernel_rfl
theorem cellsPow : Tryd.prog.cellsOf 80 = 20 := by kernel_rfl
theorem cellsTz : Tryd.prog.cellsOf 91 = 64 := by kernel_rfl
theorem cellsU : Tryd.prog.cellsOf 23 = 1 := by kernel_rfl
theorem cellsB8 : Tryd.prog.cellsOf 5 = 1 := by kernel_rfl
def tzZ : List Int := Lib.deBruijn64tab.map fun n : Nat => (n : Int)
theorem powData : (Rows.laid_internal_strconv_uint64pow10 : DataW Unit) = Lib.tabData .u64 Lib.pow10Tab := by kernel_rfl
theorem tzData : (Rows.laid_math_bits_deBruijn64tab : DataW Unit) = Lib.tabData .u8 tzZ := by kernel_rfl
theorem ntab_of {L : List (String × DataW Unit)} {W : World} (h : laidMet Tryd.prog L W) (m1 : ("internal/strconv.uint64pow10", Rows.laid_internal_strconv_uint64pow10) ∈ L) (m2 : ("math/bits.deBruijn64tab", Rows.laid_math_bits_deBruijn64tab) ∈ L) : NTab W := by
  have r1 := Lib.laidMet.reads h m1
  have r2 := Lib.laidMet.reads h m2
  rw [powData] at r1
  rw [tzData] at r2
  have t1 := tab_reads gPow gPowType Tryd.underlying80 Tryd.underlying23 cellsU cellsPow r1
  have t2 := tab_reads gTz gTzType Tryd.underlying91 Tryd.underlying5 cellsB8 cellsTz r2
  refine ⟨t1, fun j hj => ?_⟩
  rw [t2.cell gTz j (by rw [show tzZ.length = 64 by decide]; exact hj)]
  have : tzZ.getD j 0 = ((Lib.deBruijn64tab.getD j 0 : Nat) : Int) := by
    simp [tzZ, List.getD, List.getElem?_map]
    cases Lib.deBruijn64tab[j]? <;> rfl
  rw [this]
end Go.Proofs.YtekbahpobhjobaaDoor
