/-
  Decoders as they are made and read: newDecoder, whole, isOver.
-/
import Derived.Test.YtbafmiejgpgamaaGreatDoorCMeth2
namespace Go.Proofs.YtbafmiejgpgamaaGreatDoor
open Go.RowKit
theorem isOver_any (s : Nat) (w : World) :
    Calls Tryz.prog 38 #[.int .i64 (s : Int)] w fun e w' => e = .returned (.bool (s == 7 || s == 8)) ∧ w = w' := by
  have e7 : ((s : Int) == 7) = (s == 7) := by rw [Bool.eq_iff_iff, beq_iff_eq, beq_iff_eq]; omega
  have e8 : ((s : Int) == 8) = (s == 8) := by rw [Bool.eq_iff_iff, beq_iff_eq, beq_iff_eq]; omega
  obtain ⟨p, hp⟩ : ∃ p, (s == 7) = p := ⟨_, rfl⟩
  obtain ⟨q, hq⟩ : ∃ q, (s == 8) = q := ⟨_, rfl⟩
  rw [hp] at e7 ⊢
  rw [hq] at e8 ⊢
  clear hp hq
  cases p
  all_goals
    go_enter Tryz.func38, Tryz.ntmps38
    go_wp2_with fail
    go_ret
    exact ⟨rfl, rfl⟩
/-- A decoder as a value. -/
def decV (d : Dec) : Value := .agg #[.int .i64 (d.st : Int), .int .i64 (d.size : Int), .int .i64 (d.digits : Int), .int .i64 (d.left : Int), .string ⟨d.body.toArray⟩, .string ⟨d.line.toArray⟩, .int .i64 (d.lines : Int), .int .i64 (d.status : Int)]
theorem chunks_results {w : World} {B : Nat} {x0 x1 x2 x3 x4 x5 x6 x7 : Value} (h : CBlk 34 w B [x0, x1, x2, x3, x4, x5, x6, x7]) {fn : Func} {p : Tmp} (hf : fn.results = #[.cell p 34]) (tmps : Array Value)
    (hp : tmps.getD p undef = .pointer (some ⟨B, 0, none⟩)) : (Go.results fn tmps).run Tryz.prog w = .ok (.agg #[x0, x1, x2, x3, x4, x5, x6, x7]) w := by
  have hp' : tmps[p]?.getD undef = .pointer (some ⟨B, 0, none⟩) := by simpa using hp
  have c0 := h.cell 0 (by simp)
  have c1 := h.cell 1 (by simp)
  have c2 := h.cell 2 (by simp)
  have c3 := h.cell 3 (by simp)
  have c4 := h.cell 4 (by simp)
  have c5 := h.cell 5 (by simp)
  have c6 := h.cell 6 (by simp)
  have c7 := h.cell 7 (by simp)
  simp only [List.getElem_cons_zero, List.getElem_cons_succ] at c0 c1 c2 c3 c4 c5 c6 c7
  simp [Go.results, hf, hp', asAddr, go_sem, c0, c1, c2, c3, c4, c5, c6, c7]
set_option maxHeartbeats 4000000 in
theorem whole_any (W : World) (B base : Nat) (d : Dec) (v : Value) (h : DB W B base d v) :
    Calls Tryz.prog 27 #[.pointer (some ⟨B, 0, none⟩)] W fun e w' => e = .returned (decV d) ∧ Below W.heap.size W w' := by
  obtain ⟨p0, q0, rfl⟩ := h.row.form
  have h1 := h.alloc (.cells #[.int .i64 0, .int .i64 0, .int .i64 0, .int .i64 0, .string ⟨#[]⟩, .string ⟨#[]⟩, .int .i64 0, .int .i64 0] 34)
  have h2 := h1.alloc (.cells #[.int .i64 (d.st : Int), .int .i64 (d.size : Int), .int .i64 (d.digits : Int), .int .i64 (d.left : Int), .string ⟨#[]⟩, .string ⟨d.line.toArray⟩, .int .i64 (d.lines : Int), .int .i64 (d.status : Int)] 34)
  have a8 := h2.cells.2.2.2.2.2.2.2.2
  have hcv := body_text h2.row
  have hne : B ≠ W.heap.size + 1 := by have := h.blk.lt; omega
  have hlt := h.blk.lt
  obtain ⟨c0, c1, c2, c3, c4, c5, c6, c7, c8⟩ := h1.cells
  have kR := (CBlk.new 34 W [.int .i64 (d.st : Int), .int .i64 (d.size : Int), .int .i64 (d.digits : Int), .int .i64 (d.left : Int), .string ⟨d.body.toArray⟩, .string ⟨d.line.toArray⟩, .int .i64 (d.lines : Int), .int .i64 (d.status : Int)]).alloc (.cells #[.int .i64 (d.st : Int), .int .i64 (d.size : Int), .int .i64 (d.digits : Int), .int .i64 (d.left : Int), .string ⟨d.body.toArray⟩, .string ⟨d.line.toArray⟩, .int .i64 (d.lines : Int), .int .i64 (d.status : Int)] 34)
  have hB : Below W.heap.size W ((W.alloc (.cells #[.int .i64 (d.st : Int), .int .i64 (d.size : Int), .int .i64 (d.digits : Int), .int .i64 (d.left : Int), .string ⟨d.body.toArray⟩, .string ⟨d.line.toArray⟩, .int .i64 (d.lines : Int), .int .i64 (d.status : Int)] 34)).alloc (.cells #[.int .i64 (d.st : Int), .int .i64 (d.size : Int), .int .i64 (d.digits : Int), .int .i64 (d.left : Int), .string ⟨d.body.toArray⟩, .string ⟨d.line.toArray⟩, .int .i64 (d.lines : Int), .int .i64 (d.status : Int)] 34)) := by go_grown
  clear h h1 h2
  go_enter Tryz.func27, Tryz.ntmps27
  set_option maxRecDepth 10000 in
  go_wp2_with fail
  exact bodyPost_ret (chunks_results kR Tryz.results27 _ rfl) rfl ⟨rfl, hB⟩
theorem new_any (w : World) :
    Calls Tryz.prog 13 #[] w fun e w' => e = .returned (.agg #[.int .i64 0, .int .i64 0, .int .i64 0, .int .i64 0, .string ⟨#[]⟩, .string ⟨#[]⟩, .int .i64 0, .int .i64 0]) ∧ Below w.heap.size w w' := by
  have kR := CBlk.new 34 w [.int .i64 0, .int .i64 0, .int .i64 0, .int .i64 0, .string ⟨#[]⟩, .string ⟨#[]⟩, .int .i64 0, .int .i64 0]
  have hB : Below w.heap.size w (w.alloc (.cells #[.int .i64 0, .int .i64 0, .int .i64 0, .int .i64 0, .string ⟨#[]⟩, .string ⟨#[]⟩, .int .i64 0, .int .i64 0] 34)) := by go_grown
  go_enter Tryz.func13, Tryz.ntmps13
  go_wp2_with fail
  exact bodyPost_ret (chunks_results kR Tryz.results13 _ rfl) rfl ⟨rfl, hB⟩
/-- The decoder at the beginning. -/
def dec0 : Dec := ⟨0, 0, 0, 0, [], [], 0, 0⟩
set_option maxHeartbeats 4000000 in
theorem newDecoder_any (w : World) :
    Calls Tryz.prog 25 #[.agg #[.int .i64 0, .int .i64 0, .int .i64 0, .int .i64 0, .string ⟨#[]⟩, .string ⟨#[]⟩, .int .i64 0, .int .i64 0]] w fun e w' => (∃ B v, e = .returned (.pointer (some ⟨B, 0, none⟩)) ∧ DB w' B w.heap.size dec0 v) ∧ Below w.heap.size w w' := by
  obtain ⟨cap, hcap⟩ : ∃ cap, grownCap (w.alloc (.cells #[.int .i64 0, .int .i64 0, .int .i64 0, .int .i64 0, .string ⟨#[]⟩, .string ⟨#[]⟩, .int .i64 0, .int .i64 0] 34)) 0 0 5 = cap := ⟨_, rfl⟩
  have hmx : cap ≤ maxLen := by rw [← hcap]; exact grownCap_le_maxLen _ _ _ _ (by unfold maxLen; omega)
  obtain ⟨R, hR⟩ : ∃ R, bytesRow ⟨#[]⟩ cap = R := ⟨_, rfl⟩
  have hRs : R.size = cap := by
    rw [← hR]
    unfold bytesRow
    simp
    show cap - 0 = cap
    omega
  have hcv : (convert 9 53 (.string ⟨#[]⟩)).run Tryz.prog (w.alloc (.cells #[.int .i64 0, .int .i64 0, .int .i64 0, .int .i64 0, .string ⟨#[]⟩, .string ⟨#[]⟩, .int .i64 0, .int .i64 0] 34)) = .ok (.slice (some ⟨w.heap.size + 1, 0, none⟩) 0 cap) ((w.alloc (.cells #[.int .i64 0, .int .i64 0, .int .i64 0, .int .i64 0, .string ⟨#[]⟩, .string ⟨#[]⟩, .int .i64 0, .int .i64 0] 34)).alloc (.cells R 5 (cap, cap + 1))).drew := by
    have h := run_bytes_of_string (P := Tryz.prog) (w.alloc (.cells #[.int .i64 0, .int .i64 0, .int .i64 0, .int .i64 0, .string ⟨#[]⟩, .string ⟨#[]⟩, .int .i64 0, .int .i64 0] 34)) 9 53 5 ⟨#[]⟩ Tryz.underlying9 Tryz.underlying53 Tryz.underlying5
    rw [show (ByteArray.mk #[]).size = 0 from rfl, hcap, hR, hRs, World.size_alloc] at h
    exact h
  have k0 := ((CBlk.new 34 w [.int .i64 0, .int .i64 0, .int .i64 0, .int .i64 0, .string ⟨#[]⟩, .string ⟨#[]⟩, .int .i64 0, .int .i64 0]).alloc (.cells R 5 (cap, cap + 1))).drew
  have hB0 : Below w.heap.size w ((w.alloc (.cells #[.int .i64 0, .int .i64 0, .int .i64 0, .int .i64 0, .string ⟨#[]⟩, .string ⟨#[]⟩, .int .i64 0, .int .i64 0] 34)).alloc (.cells R 5 (cap, cap + 1))).drew := by go_grown
  have hz0 : ((w.alloc (.cells #[.int .i64 0, .int .i64 0, .int .i64 0, .int .i64 0, .string ⟨#[]⟩, .string ⟨#[]⟩, .int .i64 0, .int .i64 0] 34)).alloc (.cells R 5 (cap, cap + 1))).drew.heap.size = w.heap.size + 1 + 1 := by simp
  have hr0 : ((w.alloc (.cells #[.int .i64 0, .int .i64 0, .int .i64 0, .int .i64 0, .string ⟨#[]⟩, .string ⟨#[]⟩, .int .i64 0, .int .i64 0] 34)).alloc (.cells R 5 (cap, cap + 1))).drew.heap[w.heap.size + 1]? = some (.cells R 5 (cap, cap + 1)) := heap_alloc2_new w _ _
  clear hR hcap
  obtain ⟨W1, hW1⟩ : ∃ W1, ((w.alloc (.cells #[.int .i64 0, .int .i64 0, .int .i64 0, .int .i64 0, .string ⟨#[]⟩, .string ⟨#[]⟩, .int .i64 0, .int .i64 0] 34)).alloc (.cells R 5 (cap, cap + 1))).drew = W1 := ⟨_, rfl⟩
  rw [hW1] at hcv k0 hB0 hz0 hr0
  clear hW1
  have c5 := k0.cell 5 (by simp)
  have c4 := k0.cell 4 (by simp)
  simp only [List.getElem_cons_zero, List.getElem_cons_succ] at c5 c4
  have hO : OwnB W1 w.heap.size (.slice (some ⟨w.heap.size + 1, 0, none⟩) 0 cap) [] := ⟨w.heap.size + 1, cap, R, (cap, cap + 1), rfl, by omega, hr0, .inr (Nat.le_refl _), Nat.zero_le _, hmx, hRs, rfl⟩
  clear hr0 hRs
  go_enter Tryz.func25, Tryz.ntmps25
  set_option maxRecDepth 10000 in
  go_wp2_with fail
  refine (clone_any [] (by simp) W1).mono ?_
  rintro e w2 ⟨rfl, hb2⟩
  have k2 := k0.below hb2 k0.lt
  have hO2 := hO.below hb2
  have hB2 := hB0.trans (hb2.mono hB0.size)
  have hlt2 := k2.lt
  have k4 := (k2.set 4 (.string ⟨#[]⟩)).set 5 (.string ⟨#[]⟩)
  simp only [List.set_cons_zero, List.set_cons_succ] at k4
  have hgs := grown_set (grown_set (World.grownBy.refl w2 (some w.heap.size)) 4 (.string ⟨#[]⟩)) 5 (.string ⟨#[]⟩)
  have hO4 := hO2.kept hgs (by simp [Value.ownBlock])
  have hB4 : Below w.heap.size w ((w2.setCell ⟨w.heap.size, 4, none⟩ (.string ⟨#[]⟩)).setCell ⟨w.heap.size, 5, none⟩ (.string ⟨#[]⟩)) := (hB2.setCell (p := ⟨w.heap.size, 4, none⟩) (Nat.le_refl _) _).setCell (p := ⟨w.heap.size, 5, none⟩) (Nat.le_refl _) _
  have hz4 : ((w2.setCell ⟨w.heap.size, 4, none⟩ (.string ⟨#[]⟩)).setCell ⟨w.heap.size, 5, none⟩ (.string ⟨#[]⟩)).heap.size = w2.heap.size := by simp
  have d4 := k2.cell 4 (by simp)
  have d5 := k2.cell 5 (by simp)
  have f4 := k2.free 4
  have f5 := k2.free 5
  simp only [List.getElem_cons_zero, List.getElem_cons_succ] at d4 d5
  obtain ⟨W4, hW4⟩ : ∃ W4, (w2.setCell ⟨w.heap.size, 4, none⟩ (.string ⟨#[]⟩)).setCell ⟨w.heap.size, 5, none⟩ (.string ⟨#[]⟩) = W4 := ⟨_, rfl⟩
  have H4 := Lib.hid hW4
  rw [hW4] at k4 hO4 hB4 hz4
  clear hW4 hgs
  go_upto_region 3 with fail
  rw [H4.out]
  clear H4
  have q0 := k4.cell 0 (by simp)
  have q1 := k4.cell 1 (by simp)
  have q2 := k4.cell 2 (by simp)
  have q3 := k4.cell 3 (by simp)
  have q4 := k4.cell 4 (by simp)
  have q5 := k4.cell 5 (by simp)
  have q6 := k4.cell 6 (by simp)
  have q7 := k4.cell 7 (by simp)
  simp only [List.getElem_cons_zero, List.getElem_cons_succ] at q0 q1 q2 q3 q4 q5 q6 q7
  go_wp2_with fail
  go_ret
  refine ⟨⟨w2.heap.size, .slice (some ⟨w.heap.size + 1, 0, none⟩) 0 cap, rfl, ?_, ?_, hB2.size⟩, hB4.alloc hB4.size _⟩
  · have hn := CBlk.new 64 W4 (decC dec0 (.slice (some ⟨w.heap.size + 1, 0, none⟩) 0 cap))
    rw [hz4] at hn
    exact hn
  · exact hO4.alloc _
end Go.Proofs.YtbafmiejgpgamaaGreatDoor
