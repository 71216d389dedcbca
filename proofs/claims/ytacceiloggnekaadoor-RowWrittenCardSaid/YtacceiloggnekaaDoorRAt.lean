/-
  Reading rows and words as they lie in memory. No condition.
-/
import Derived.Test.YtacceiloggnekaaDoorRRowF
namespace Go.Proofs.YtacceiloggnekaaDoor
open Go.RowKit
/-- The cells of row k. -/
theorem row_cells {w w' : World} {p : Option Addr} {cs : List Value} {rs : List Rw} (hcs : RowCs w cs rs) (hcl : CellsIn w p (rs.length * 2) (fun j => cs.getD j (.int .i64 0))) (hb : Below w.heap.size w w') {k : Nat} (hk : k < rs.length) :
    ∃ b off wp wc, p = some ⟨b, off, none⟩ ∧ b < w.heap.size ∧ w'.cell? ⟨b, off + k * 2, none⟩ = some (.int .i64 rs[k].pos) ∧ w'.cell? ⟨b, off + k * 2 + 1, none⟩ = some (.slice wp rs[k].words.length wc) ∧ CellsIn w wp (rs[k].words.length * 3) (fun j => (wdsC rs[k].words).getD j (.int .i64 0)) := by
  obtain ⟨h0, wv, h1, wp, wc, rfl, hwc⟩ := hcs.at k hk
  obtain ⟨b, off, rfl, hbw, c0⟩ := hcl (k * 2) (by omega)
  have c1 := hcl.cell (k * 2 + 1) (by omega)
  dsimp only at c0 c1
  rw [List.getD_eq_getElem?_getD, h0] at c0
  rw [List.getD_eq_getElem?_getD, h1] at c1
  refine ⟨b, off, wp, wc, rfl, hbw, ?_, ?_, hwc⟩
  · exact (hb.cell (p := ⟨b, off + k * 2, none⟩) hbw).trans c0
  · rw [Nat.add_assoc]
    exact (hb.cell (p := ⟨b, off + (k * 2 + 1), none⟩) hbw).trans c1
/-- The cells of word k. -/
theorem word_cells {w w' : World} {p : Option Addr} {ws : List Wd} (hcl : CellsIn w p (ws.length * 3) (fun j => (wdsC ws).getD j (.int .i64 0))) (hb : Below w.heap.size w w') {k : Nat} (hk : k < ws.length) :
    ∃ b off, p = some ⟨b, off, none⟩ ∧ b < w.heap.size ∧ w'.cell? ⟨b, off + k * 3, none⟩ = some (.int .i64 ws[k].pos) ∧ w'.cell? ⟨b, off + k * 3 + 1, none⟩ = some (.string ⟨ws[k].text.toArray⟩) ∧ w'.cell? ⟨b, off + k * 3 + 2, none⟩ = some (.bool ws[k].quo) := by
  obtain ⟨b, off, rfl, hbw, c0⟩ := hcl (k * 3) (by omega)
  have c1 := hcl.cell (k * 3 + 1) (by omega)
  have c2 := hcl.cell (k * 3 + 2) (by omega)
  have a0 := wdsC_at ws k hk 0 (by omega)
  have a1 := wdsC_at ws k hk 1 (by omega)
  have a2 := wdsC_at ws k hk 2 (by omega)
  rw [Nat.add_zero] at a0
  dsimp only at c0 c1 c2
  rw [List.getD_eq_getElem?_getD, a0] at c0
  rw [List.getD_eq_getElem?_getD, a1] at c1
  rw [List.getD_eq_getElem?_getD, a2] at c2
  refine ⟨b, off, rfl, hbw, ?_, ?_, ?_⟩
  · exact (hb.cell (p := ⟨b, off + k * 3, none⟩) hbw).trans c0
  · rw [Nat.add_assoc]
    exact (hb.cell (p := ⟨b, off + (k * 3 + 1), none⟩) hbw).trans c1
  · rw [Nat.add_assoc]
    exact (hb.cell (p := ⟨b, off + (k * 3 + 2), none⟩) hbw).trans c2
end Go.Proofs.YtacceiloggnekaaDoor
