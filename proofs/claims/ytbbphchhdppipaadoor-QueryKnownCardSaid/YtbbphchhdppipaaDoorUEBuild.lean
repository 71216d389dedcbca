/-
  The encoder of package query: a set, and a strings.Builder behind it: WriteString appends, String hands back all; the builder of Join, likewise. No condition but that lengths stay below 2^47.
-/
import Derived.Test.YtbbphchhdppipaaDoorUPBuild
import Derived.Test.YtbbphchhdppipaaDoorUPrs
import Derived.Lib.AppendIntMem
import Derived.RangeFuncBox
namespace Go.Proofs.YtbbphchhdppipaaDoor
open Go.RowKit
theorem liesEnc : liesAt Tryd.prog Tryd.prog.depth 60 (6 / Tryd.prog.cellsOf 60) 4 58 1 = true := by kernel_rfl
/-- An encoder in a block of the call's own: number b, from B on: four words, and a builder that holds the bytes bs. -/
def EAt (x0 x1 x2 x3 : Value) (B b : Nat) (p : Value) (bs : List Value) (w : World) : Prop :=
  B ≤ b ∧ ∃ v, w.heap[b]? = some (.cells #[x0, x1, x2, x3, p, v] 60 (0, 0)) ∧ w.ownsRow B 5 1 v bs.length bs ∧ v.ownBlock ≠ some b
def EIs (x0 x1 x2 x3 : Value) (B b : Nat) (bs : List Value) (w : World) : Prop := EAt x0 x1 x2 x3 B b (.pointer none) bs w ∨ EAt x0 x1 x2 x3 B b (.pointer (some ⟨b, 4, none⟩)) bs w
theorem grown_cell (W : World) (b i : Nat) (v : Value) : W.grownBy (W.setCell ⟨b, i, none⟩ v) (some b) :=
  ⟨rfl, rfl, rfl, by simp [World.setCell], fun k _ hk => Below.heap_setCell _ _ _ _ (fun e => hk (by simp [e]))⟩
section
variable {x0 x1 x2 x3 p : Value} {B b : Nat} {bs : List Value} {w : World}
theorem EAt.cell0 (h : EAt x0 x1 x2 x3 B b p bs w) : w.cell? ⟨b, 4, none⟩ = some p := by
  obtain ⟨_, v, hb, _⟩ := h
  simp [World.cell?, hb]
theorem EAt.sets (h : EAt x0 x1 x2 x3 B b p bs w) : w.cell? ⟨b, 0, none⟩ = some x0 ∧ w.cell? ⟨b, 1, none⟩ = some x1 ∧ w.cell? ⟨b, 2, none⟩ = some x2 ∧ w.cell? ⟨b, 3, none⟩ = some x3 := by
  obtain ⟨_, v, hb, _⟩ := h
  simp [World.cell?, hb]
theorem EAt.shape (h : EAt x0 x1 x2 x3 B b p bs w) : w.shape? b = some (60, 6) := by
  obtain ⟨_, v, hb, _⟩ := h
  simp [World.shape?, hb]
theorem EAt.lt (h : EAt x0 x1 x2 x3 B b p bs w) : b < w.heap.size := by
  obtain ⟨_, v, hb, _⟩ := h
  exact lt_of_block hb
theorem EAt.frozen0 (h : EAt x0 x1 x2 x3 B b p bs w) : w.frozen? ⟨b, 4, none⟩ = false := by
  obtain ⟨_, v, hb, _⟩ := h
  simp [World.frozen?, hb]
theorem EAt.used (h : EAt x0 x1 x2 x3 B b p bs w) (q : Value) : EAt x0 x1 x2 x3 B b q bs (w.setCell ⟨b, 4, none⟩ q) := by
  obtain ⟨hB, v, hb, hown, hne⟩ := h
  refine ⟨hB, v, ?_, ?_, hne⟩
  · simp [World.setCell, Array.getElem?_modify, hb]
  · exact hown.kept (row := some b) (grown_cell _ _ _ _) (.inr hne)
theorem EAt.put {v' : Value} {bs' : List Value} {q v : Value} (hB : B ≤ b) (hb : w.heap[b]? = some (.cells #[x0, x1, x2, x3, q, v] 60 (0, 0))) (hown : w.ownsRow B 5 1 v' bs'.length bs') : EAt x0 x1 x2 x3 B b q bs' (w.setCell ⟨b, 5, none⟩ v') := by
  have hne : v'.ownBlock ≠ some b := by
    rcases hown.2 with ⟨rfl, _⟩ | ⟨g, cap, cur, rfl, _, hgb, _⟩
    · simp [Value.ownBlock]
    · intro e'
      obtain rfl : g = b := by simpa [Value.ownBlock] using e'
      have := hb.symm.trans hgb
      simp at this
  refine ⟨hB, v', ?_, ?_, hne⟩
  · simp [World.setCell, Array.getElem?_modify, hb]
  · exact hown.kept (row := some b) (grown_cell _ _ _ _) (.inr hne)
theorem EAt.below {w' : World} (h : EAt x0 x1 x2 x3 B b p bs w) (hb : Below w.heap.size w w') : EAt x0 x1 x2 x3 B b p bs w' := by
  have hlt := h.lt
  obtain ⟨hB, v, hbk, hown, hne⟩ := h
  exact ⟨hB, v, (hb.block b hlt).trans hbk, own_below hown hb, hne⟩
theorem EIs.below {w' : World} (h : EIs x0 x1 x2 x3 B b bs w) (hb : Below w.heap.size w w') : EIs x0 x1 x2 x3 B b bs w' := h.imp (EAt.below · hb) (EAt.below · hb)
theorem EIs.lt (h : EIs x0 x1 x2 x3 B b bs w) : b < w.heap.size := by
  rcases h with h | h
  · exact h.lt
  · exact h.lt
theorem EIs.sets (h : EIs x0 x1 x2 x3 B b bs w) : w.cell? ⟨b, 0, none⟩ = some x0 ∧ w.cell? ⟨b, 1, none⟩ = some x1 ∧ w.cell? ⟨b, 2, none⟩ = some x2 ∧ w.cell? ⟨b, 3, none⟩ = some x3 := by
  rcases h with h | h
  · exact h.sets
  · exact h.sets
theorem EIs.fresh (x0 x1 x2 x3 : Value) (w : World) : EIs x0 x1 x2 x3 w.heap.size w.heap.size [] (w.alloc (.cells #[x0, x1, x2, x3, .pointer none, .slice none 0 0] 60)) :=
  Or.inl ⟨Nat.le_refl _, .slice none 0 0, heap_alloc_new w _, World.ownsRow_nil _ _ _ _, by simp [Value.ownBlock]⟩
end
set_option maxHeartbeats 1000000 in
set_option maxRecDepth 100000 in
theorem e_check_used (b : Nat) (w : World) (h0 : w.cell? ⟨b, 4, none⟩ = some (.pointer (some ⟨b, 4, none⟩))) :
    Calls Tryd.prog 63 #[.pointer (some ⟨b, 4, none⟩)] w fun e w' => e = .returned (.tuple #[]) ∧ w' = w := by
  obtain ⟨j, hj, _⟩ := Option.map_eq_some_iff.1 sizeOut
  go_enter Tryd.func63, Tryd.ntmps63
  go_wp2
  rw [Lib.run_neq_ptr_same w _ Tryd.underlying56 hj]
  go_wp2
  go_end0
  exact ⟨rfl, rfl⟩
set_option maxHeartbeats 1000000 in
set_option maxRecDepth 100000 in
theorem e_check_fresh (b : Nat) (w : World) (h0 : w.cell? ⟨b, 4, none⟩ = some (.pointer none)) (hsh : w.shape? b = some (60, 6)) (hfz : w.frozen? ⟨b, 4, none⟩ = false) :
    Calls Tryd.prog 63 #[.pointer (some ⟨b, 4, none⟩)] w fun e w' => e = .returned (.tuple #[]) ∧ w' = w.setCell ⟨b, 4, none⟩ (.pointer (some ⟨b, 4, none⟩)) := by
  obtain ⟨j, hj, hjs⟩ := Option.map_eq_some_iff.1 sizeOut
  go_enter Tryd.func63, Tryd.ntmps63
  go_wp2
  rw [Lib.run_to_unsafe w ⟨b, 4, none⟩ Tryd.underlying56 Tryd.underlying107 hj (by rw [hjs]; decide) hsh (show 4 < 6 by omega)]
  simp only [Result.andThen]
  rw [Oper.upon_value]
  go_wp2
  rw [run_callFunc_extern Tryd.func77 (by kernel_rfl) (by kernel_rfl) (by kernel_rfl) (e := Extern.AbiNoEscape.same) (by kernel_rfl)]
  rw [Lib.run_noEscape]
  simp only [Result.andThen]
  rw [Oper.upon_value]
  go_wp2
  rw [Lib.run_from_unsafe w ⟨b, 4, none⟩ Tryd.underlying107 Tryd.underlying56 hj hsh liesEnc]
  simp only [Result.andThen]
  rw [Oper.upon_value]
  go_wp2
  go_end0
  exact ⟨rfl, rfl⟩
theorem e_check_any (x0 x1 x2 x3 : Value) (B b : Nat) (bs : List Value) (w : World) (h : EIs x0 x1 x2 x3 B b bs w) :
    Calls Tryd.prog 63 #[.pointer (some ⟨b, 4, none⟩)] w fun e w' => e = .returned (.tuple #[]) ∧ (EAt x0 x1 x2 x3 B b (.pointer (some ⟨b, 4, none⟩)) bs w' ∧ Below B w w') := by
  rcases h with h | h
  · refine (e_check_fresh b w h.cell0 h.shape h.frozen0).mono ?_
    rintro e w' ⟨rfl, rfl⟩
    exact ⟨rfl, h.used _, (Below.refl B w).setCell (p := ⟨b, 4, none⟩) h.1 _⟩
  · refine (e_check_used b w h.cell0).mono ?_
    rintro e w' ⟨rfl, rfl⟩
    exact ⟨rfl, h, Below.refl B _⟩
set_option maxHeartbeats 2000000 in
set_option maxRecDepth 100000 in
theorem e_writeString_any (x0 x1 x2 x3 : Value) (B b : Nat) (bs : List Value) (s : List UInt8) (w : World) (h : EIs x0 x1 x2 x3 B b bs w) (hlen : bs.length + s.length ≤ 140737488355328) (hBw : B ≤ w.heap.size) :
    Calls Tryd.prog 41 #[.pointer (some ⟨b, 4, none⟩), .string ⟨s.toArray⟩] w fun e w' => e = .returned (.tuple #[.int .i64 (s.length : Int), .nilIface]) ∧ (EAt x0 x1 x2 x3 B b (.pointer (some ⟨b, 4, none⟩)) (bs ++ Lib.byteCells s) w' ∧ Below B w w') := by
  obtain ⟨i0, hi, hz0, hz1, hz2⟩ := info_parts info5
  go_enter Tryd.func41, Tryd.ntmps41
  go_wp2_with (go_at_call 63; refine (e_check_any x0 x1 x2 x3 B b bs _ h).mono ?_)
  rintro e w1 ⟨rfl, h1, hb1⟩
  obtain ⟨hB, v, hbk, hown, hne⟩ := h1
  have c0 : w1.cell? ⟨b, 4, none⟩ = some (.pointer (some ⟨b, 4, none⟩)) := by rw [Lib.cell_of_heap hbk]; rfl
  have c1 : w1.cell? ⟨b, 5, none⟩ = some v := by rw [Lib.cell_of_heap hbk]; rfl
  have hss : (ByteArray.mk s.toArray).size = s.length := rfl
  go_wp2_with (at_builtin; refine Lib.wpList_append_own_string _ rfl _ _ 53 9 rfl B 5 i0 Tryd.underlying53 Tryd.underlying9 hi hz0 hz1 hz2 _ _ _ rfl hown ⟨s.toArray⟩ rfl ?c3 ?c4 ?c5 ?_)
  case c3 => unfold maxLen; omega
  case c4 => omega
  case c5 => have := hb1.size; omega
  intro v' w2 hown' hgrow _
  have hlt : b < w1.heap.size := lt_of_block hbk
  have hb2 : w2.heap[b]? = some (.cells #[x0, x1, x2, x3, .pointer (some ⟨b, 4, none⟩), v] 60 (0, 0)) := by
    rw [hgrow.block b hlt (fun e => hne e.symm)]
    exact hbk
  have d0 : w2.cell? ⟨b, 4, none⟩ = some (.pointer (some ⟨b, 4, none⟩)) := by rw [Lib.cell_of_heap hb2]; rfl
  have d1 : w2.cell? ⟨b, 5, none⟩ = some v := by rw [Lib.cell_of_heap hb2]; rfl
  have f1 : w2.frozen? ⟨b, 5, none⟩ = false := Lib.frozen_of_heap hb2 5
  obtain ⟨ao, n', cap, rfl⟩ : ∃ ao n' cap, v' = .slice ao n' cap := by
    rcases hown'.2 with ⟨hv, _⟩ | ⟨g, cap, cur, hv, _⟩
    · exact ⟨_, _, _, hv⟩
    · exact ⟨_, _, _, hv⟩
  go_wp2
  go_ret2
  refine ⟨rfl, ?_, ?_⟩
  · exact EAt.put hB hb2 (bs' := bs ++ Lib.byteCells s) (by rw [← Lib.strCells_toArray, List.length_append, Lib.strCells_length]; exact hown')
  · exact (hb1.grown hgrow (by have := hb1.size; omega) (fun k hk => (hown.lt k hk).1)).setCell (p := ⟨b, 5, none⟩) hB _
set_option maxHeartbeats 2000000 in
set_option maxRecDepth 100000 in
theorem e_string_some (x0 x1 x2 x3 : Value) (B b : Nat) (p : Value) (l : List UInt8) (w : World) (h : EAt x0 x1 x2 x3 B b p (Lib.byteCells l) w) (h0 : l ≠ []) :
    Calls Tryd.prog 43 #[.pointer (some ⟨b, 4, none⟩)] w fun e w' => e = .returned (.string ⟨l.toArray⟩) ∧ Below B w w' := by
  obtain ⟨hB, v, hbk, hown, hne⟩ := h
  have hl0 : l.length ≠ 0 := by simpa using h0
  rw [Lib.byteCells_length] at hown
  obtain ⟨g, cap, cur, rfl, hbg, hg, hnc, hcm, hcs, htake⟩ : ∃ g cap cur, v = .slice (some ⟨g, 0, none⟩) l.length cap ∧ B ≤ g ∧ w.heap[g]? = some (.cells cur 5 (0, 0)) ∧ l.length ≤ cap ∧ cap ≤ maxLen ∧ cur.size = cap * 1 ∧ cur.toList.take (l.length * 1) = Lib.byteCells l := by
    rcases hown.2 with ⟨_, hz⟩ | ⟨g, cap, cur, hv, r⟩
    · exact absurd hz hl0
    · exact ⟨g, cap, cur, hv, r⟩
  have c1 : w.drew.cell? ⟨b, 5, none⟩ = some (.slice (some ⟨g, 0, none⟩) l.length cap) := by
    have : w.drew.heap[b]? = some (.cells #[x0, x1, x2, x3, p, .slice (some ⟨g, 0, none⟩) l.length cap] 60 (0, 0)) := hbk
    rw [Lib.cell_of_heap this]; rfl
  have hSD : (Builtin.unsafeSliceData_ #[53] 91 #[.slice (some ⟨g, 0, none⟩) l.length cap]).run Tryd.prog w.drew = .ok (.pointer (some ⟨g, 0, none⟩)) w.drew :=
    Lib.run_unsafeSliceData_row _ _ _ _ _ _ (by omega)
  have hUS : (Builtin.unsafeString_ #[91, 3] 9 #[.pointer (some ⟨g, 0, none⟩), .int .i64 l.length]).run Tryd.prog w.drew = .ok (.string ⟨l.toArray⟩) (w.drew.freeze ⟨g, 0, none⟩ l.length) := by
    refine Lib.run_unsafeString_row w.drew 91 3 9 5 Tryd.underlying91 cellsByte g cur.size (by have hg' : w.drew.heap[g]? = some (.cells cur 5 (0, 0)) := hg; simp [World.shape?, hg']) l h0 (by omega) (by unfold maxLen at hcm; omega) ?_
    intro j x hx
    have := hown.cells (g := g) rfl j (.int .u8 x.toNat) (by simp [Lib.byteCells, hx])
    exact this
  go_enter Tryd.func43, Tryd.ntmps43
  go_wp2
  go_region
  all_goals (go_wp2; go_ret; exact ⟨rfl, Lib.below_freeze (Below.drew (Below.refl B w)) (p := ⟨g, 0, none⟩) hbg _⟩)
set_option maxHeartbeats 2000000 in
set_option maxRecDepth 100000 in
theorem e_string_nil (x0 x1 x2 x3 : Value) (B b : Nat) (p : Value) (w : World) (hbk : w.heap[b]? = some (.cells #[x0, x1, x2, x3, p, .slice none 0 0] 60 (0, 0))) :
    Calls Tryd.prog 43 #[.pointer (some ⟨b, 4, none⟩)] w fun e w' => e = .returned (.string ⟨#[]⟩) ∧ Below B w w' := by
  have hUS := uString_none
  have c1 : w.drew.cell? ⟨b, 5, none⟩ = some (.slice none 0 0) := by
    have : w.drew.heap[b]? = some (.cells #[x0, x1, x2, x3, p, .slice none 0 0] 60 (0, 0)) := hbk
    rw [Lib.cell_of_heap this]; rfl
  have hSD : (Builtin.unsafeSliceData_ #[53] 91 #[.slice none 0 0]).run Tryd.prog w.drew = .ok (.pointer none) w.drew := rfl
  go_enter Tryd.func43, Tryd.ntmps43
  go_wp2
  go_region
  all_goals (go_wp2; go_ret; exact ⟨rfl, Below.drew (Below.refl B w)⟩)
set_option maxHeartbeats 2000000 in
set_option maxRecDepth 100000 in
theorem e_string_noroom (x0 x1 x2 x3 : Value) (B b g : Nat) (p : Value) (cur : Array Value) (w : World) (hBw : B ≤ w.heap.size) (hbk : w.heap[b]? = some (.cells #[x0, x1, x2, x3, p, .slice (some ⟨g, 0, none⟩) 0 0] 60 (0, 0))) (hg : w.heap[g]? = some (.cells cur 5 (0, 0))) :
    Calls Tryd.prog 43 #[.pointer (some ⟨b, 4, none⟩)] w fun e w' => e = .returned (.string ⟨#[]⟩) ∧ Below B w w' := by
  have hUS := uString_none
  have hlt : b < w.heap.size := lt_of_block hbk
  have c1 : w.drew.cell? ⟨b, 5, none⟩ = some (.slice (some ⟨g, 0, none⟩) 0 0) := by
    have : w.drew.heap[b]? = some (.cells #[x0, x1, x2, x3, p, .slice (some ⟨g, 0, none⟩) 0 0] 60 (0, 0)) := hbk
    rw [Lib.cell_of_heap this]; rfl
  have hSD : (Builtin.unsafeSliceData_ #[53] 91 #[.slice (some ⟨g, 0, none⟩) 0 0]).run Tryd.prog w.drew = .ok (.pointer (some ⟨w.drew.heap.size, 0, none⟩)) (w.drew.alloc (.view ⟨g, 0, none⟩ 5)) :=
    Lib.run_unsafeSliceData_zero w.drew _ _ 5 Tryd.underlying91 ⟨g, 0, none⟩ 0 (5, cur.size) (by have hg' : w.drew.heap[g]? = some (.cells cur 5 (0, 0)) := hg; simp [World.shape?, hg'])
  have c2 : (w.drew.alloc (.view ⟨g, 0, none⟩ 5)).cell? ⟨b, 5, none⟩ = some (.slice (some ⟨g, 0, none⟩) 0 0) := by
    have : (w.drew.alloc (.view ⟨g, 0, none⟩ 5)).heap[b]? = _ := (Lib.alloc_old w.drew _ b hlt).trans hbk
    rw [Lib.cell_of_heap this]; rfl
  have c3 : (w.alloc (.view ⟨g, 0, none⟩ 5)).drew.cell? ⟨b, 5, none⟩ = some (.slice (some ⟨g, 0, none⟩) 0 0) := c2
  have c0 : w.cell? ⟨b, 5, none⟩ = some (.slice (some ⟨g, 0, none⟩) 0 0) := c1
  go_enter Tryd.func43, Tryd.ntmps43
  go_wp2
  go_region
  all_goals (go_wp2; go_ret; exact ⟨rfl, (Below.drew (Below.refl B w)).alloc hBw _⟩)
set_option maxHeartbeats 2000000 in
set_option maxRecDepth 100000 in
theorem e_string_room (x0 x1 x2 x3 : Value) (B b g cap : Nat) (p : Value) (w : World) (hc0 : cap ≠ 0) (hbk : w.heap[b]? = some (.cells #[x0, x1, x2, x3, p, .slice (some ⟨g, 0, none⟩) 0 cap] 60 (0, 0))) :
    Calls Tryd.prog 43 #[.pointer (some ⟨b, 4, none⟩)] w fun e w' => e = .returned (.string ⟨#[]⟩) ∧ Below B w w' := by
  have hUS := uString_none
  have c1 : w.drew.cell? ⟨b, 5, none⟩ = some (.slice (some ⟨g, 0, none⟩) 0 cap) := by
    have : w.drew.heap[b]? = some (.cells #[x0, x1, x2, x3, p, .slice (some ⟨g, 0, none⟩) 0 cap] 60 (0, 0)) := hbk
    rw [Lib.cell_of_heap this]; rfl
  have hSD : (Builtin.unsafeSliceData_ #[53] 91 #[.slice (some ⟨g, 0, none⟩) 0 cap]).run Tryd.prog w.drew = .ok (.pointer (some ⟨g, 0, none⟩)) w.drew :=
    Lib.run_unsafeSliceData_row _ _ _ _ _ _ hc0
  clear hc0
  go_enter Tryd.func43, Tryd.ntmps43
  go_wp2
  go_region
  all_goals (go_wp2; go_ret; exact ⟨rfl, Below.drew (Below.refl B w)⟩)
theorem e_string_any (x0 x1 x2 x3 : Value) (B b : Nat) (l : List UInt8) (w : World) (h : EIs x0 x1 x2 x3 B b (Lib.byteCells l) w) (hBw : B ≤ w.heap.size) :
    Calls Tryd.prog 43 #[.pointer (some ⟨b, 4, none⟩)] w fun e w' => e = .returned (.string ⟨l.toArray⟩) ∧ Below B w w' := by
  obtain ⟨p, h⟩ : ∃ p, EAt x0 x1 x2 x3 B b p (Lib.byteCells l) w := by
    rcases h with h | h
    · exact ⟨_, h⟩
    · exact ⟨_, h⟩
  cases l with
  | cons x r => exact e_string_some x0 x1 x2 x3 B b p (x :: r) w h (by simp)
  | nil =>
    obtain ⟨hB, v, hbk, hown, hne⟩ := h
    rcases hown.2 with ⟨rfl, _⟩ | ⟨g, cap, cur, rfl, hbg, hg, _, _, _, _⟩
    · exact e_string_nil x0 x1 x2 x3 B b p w hbk
    · by_cases hc0 : cap = 0
      · subst hc0
        exact e_string_noroom x0 x1 x2 x3 B b g p cur w hBw hbk hg
      · exact e_string_room x0 x1 x2 x3 B b g cap p w hc0 hbk
end Go.Proofs.YtbbphchhdppipaaDoor
