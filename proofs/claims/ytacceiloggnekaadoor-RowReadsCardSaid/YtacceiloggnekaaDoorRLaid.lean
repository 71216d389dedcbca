/-
  From a row's list of laid variables to the table and the two errors that package row's texts read.
-/
import Derived.Test.YtacceiloggnekaaDoorRPLay
import Derived.Test.YtacceiloggnekaaDoorRows
import Derived.Lib.LaidU8
namespace Go.Proofs.YtacceiloggnekaaDoor
open Go.RowKit
theorem tab_reads {P : Program} {W : World} {name : String} {k : IntKind} {zs : List Int} {g : Nat} {t e : TypeId} {n : Nat}
    (hg : P.globalNamed name = some g) (hty : (P.globals[g]?).map (·.type) = some t) (ht : P.underlying t = some (.array n e)) (he : P.underlying e = some (.int k)) (hce : P.cellsOf e = 1) (hct : P.cellsOf t = n)
    (h : Lib.VarReads P W name (Lib.tabData k zs)) : Lib.TabIs P W name k zs := by
  obtain ⟨g', t', cs, fuel, p, hg', ht', hvar, hd⟩ := h
  obtain rfl := Option.some.inj (hg.symm.trans hg')
  obtain rfl := Option.some.inj (hty.symm.trans ht')
  unfold Lib.TabIs
  rw [hvar, ← Lib.cells_of_tab ht he hce hct hd]
/-- A variable that reads as an interface value holds one. -/
theorem err_reads {P : Program} {W : World} {name nm : String} {d : DataW Unit} {g : Nat} {t : TypeId} {ms : _}
    (hg : P.globalNamed name = some g) (hty : (P.globals[g]?).map (·.type) = some t) (ht : P.underlying t = some (.interface ms))
    (h : Lib.VarReads P W name (.iface nm d)) : ErrVar W g := by
  obtain ⟨g', t', cs, fuel, p, hg', ht', hvar, hd⟩ := h
  obtain rfl := Option.some.inj (hg.symm.trans hg')
  obtain rfl := Option.some.inj (hty.symm.trans ht')
  have hc := World.var?_cell hg hvar 0
  obtain ⟨l⟩ := cs
  cases fuel with
  | zero => simp [DataW.trod] at hd
  | succ fuel =>
    simp only [DataW.trod, ht] at hd
    split at hd
    all_goals first | (exact ⟨_, hc, .inr ⟨_, _, rfl⟩⟩) | (cases hd; done) | (exfalso; injections; done)
theorem gPow : Tryd.prog.globalNamed "internal/strconv.uint64pow10" = some 3 := by kernel_rfl
theorem gPowType : (Tryd.prog.globals[3]?).map (·.type) = some 126 := by kernel_rfl
theorem cellsPow : Tryd.prog.cellsOf 126 = 20 := by kernel_rfl
theorem cellsU : Tryd.prog.cellsOf 102 = 1 := by kernel_rfl
theorem powData : (Rows.laid_internal_strconv_uint64pow10 : DataW Unit) = Lib.tabData .u64 Lib.pow10Tab := by kernel_rfl
theorem gSyn : Tryd.prog.globalNamed "strconv.ErrSyntax" = some 0 := by kernel_rfl
theorem gSynType : (Tryd.prog.globals[0]?).map (·.type) = some 69 := by kernel_rfl
theorem gRan : Tryd.prog.globalNamed "strconv.ErrRange" = some 1 := by kernel_rfl
theorem gRanType : (Tryd.prog.globals[1]?).map (·.type) = some 69 := by kernel_rfl
theorem vt_of {L : List (String × DataW Unit)} {W : World} (h : laidMet Tryd.prog L W) (m1 : ("internal/strconv.uint64pow10", Rows.laid_internal_strconv_uint64pow10) ∈ L) (m2 : ("strconv.ErrRange", Rows.laid_strconv_ErrRange) ∈ L) (m3 : ("strconv.ErrSyntax", Rows.laid_strconv_ErrSyntax) ∈ L) : VT W := by
  have r1 := Lib.laidMet.reads h m1
  have r2 := Lib.laidMet.reads h m2
  have r3 := Lib.laidMet.reads h m3
  rw [powData] at r1
  exact ⟨tab_reads gPow gPowType Tryd.underlying126 Tryd.underlying102 cellsU cellsPow r1, err_reads gSyn gSynType Tryd.underlying69 r3, err_reads gRan gRanType Tryd.underlying69 r2⟩
end Go.Proofs.YtacceiloggnekaaDoor
