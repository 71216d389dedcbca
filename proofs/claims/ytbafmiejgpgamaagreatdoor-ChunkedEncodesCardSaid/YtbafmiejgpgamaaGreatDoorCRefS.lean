/-
  The reference's functions on a decoder: digit, bad, sized, trailer, ended, over, step.
-/
import Derived.Test.YtbafmiejgpgamaaGreatDoorCWhole
import Derived.Test.YtbafmiejgpgamaaGreatDoorCCut
namespace Go.Proofs.YtbafmiejgpgamaaGreatDoor
open Go.RowKit
attribute [local go_sem] ba_get
set_option maxHeartbeats 1000000 in
theorem refDigit_any (n : Nat) (hn : n < 256) (w : World) :
    Calls Tryz.prog 40 #[.int .u8 (n : Int)] w fun e w' => e = .returned (.int .i64 (valN true n)) ∧ w = w' := by
  have h : (48 ≤ n ∧ n ≤ 57) ∨ (97 ≤ n ∧ n ≤ 102) ∨ (65 ≤ n ∧ n ≤ 70) ∨ n < 48 ∨ (57 < n ∧ n < 65) ∨ (70 < n ∧ n < 97) ∨ 102 < n := by omega
  obtain ⟨v, hv⟩ : ∃ v, valN true n = v := ⟨_, rfl⟩
  rw [hv]
  have q1 : 48 ≤ n → n ≤ 57 → IntKind.u8.wrap ((n : Int) - 48) = (n : Int) - 48 := by intros; simp only [IntKind.wrap, IntKind.bits, IntKind.signed]; simp; omega
  have q2 : 97 ≤ n → n ≤ 102 → IntKind.u8.wrap ((n : Int) - 97) = (n : Int) - 97 := by intros; simp only [IntKind.wrap, IntKind.bits, IntKind.signed]; simp; omega
  have q3 : 65 ≤ n → n ≤ 70 → IntKind.u8.wrap ((n : Int) - 65) = (n : Int) - 65 := by intros; simp only [IntKind.wrap, IntKind.bits, IntKind.signed]; simp; omega
  have q4 : 48 ≤ n → n ≤ 57 → IntKind.i64.wrap ((n : Int) - 48) = (n : Int) - 48 := by intros; simp only [IntKind.wrap, IntKind.bits, IntKind.signed]; simp; omega
  have q5 : 97 ≤ n → n ≤ 102 → IntKind.i64.wrap ((n : Int) - 97) = (n : Int) - 97 := by intros; simp only [IntKind.wrap, IntKind.bits, IntKind.signed]; simp; omega
  have q6 : 65 ≤ n → n ≤ 70 → IntKind.i64.wrap ((n : Int) - 65) = (n : Int) - 65 := by intros; simp only [IntKind.wrap, IntKind.bits, IntKind.signed]; simp; omega
  have q7 : 97 ≤ n → n ≤ 102 → IntKind.i64.wrap ((n : Int) - 97 + 10) = (n : Int) - 97 + 10 := by intros; simp only [IntKind.wrap, IntKind.bits, IntKind.signed]; simp; omega
  have q8 : 65 ≤ n → n ≤ 70 → IntKind.i64.wrap ((n : Int) - 65 + 10) = (n : Int) - 65 + 10 := by intros; simp only [IntKind.wrap, IntKind.bits, IntKind.signed]; simp; omega
  have z1 : 48 ≤ n → n ≤ 57 → wrap64 ((n : Int) - 48) = (n : Int) - 48 := by intros; unfold wrap64; omega
  have z2 : 97 ≤ n → n ≤ 102 → wrap64 ((n : Int) - 97) = (n : Int) - 97 := by intros; unfold wrap64; omega
  have z3 : 65 ≤ n → n ≤ 70 → wrap64 ((n : Int) - 65) = (n : Int) - 65 := by intros; unfold wrap64; omega
  have z4 : 97 ≤ n → n ≤ 102 → wrap64 ((n : Int) - 97 + 10) = (n : Int) - 97 + 10 := by intros; unfold wrap64; omega
  have z5 : 65 ≤ n → n ≤ 70 → wrap64 ((n : Int) - 65 + 10) = (n : Int) - 65 + 10 := by intros; unfold wrap64; omega
  rcases h with h | h | h | h | h | h | h
  all_goals
    unfold valN at hv
    first
      | (rw [if_pos (by omega : 48 ≤ n ∧ n ≤ 57)] at hv)
      | (rw [if_neg (by omega : ¬ (48 ≤ n ∧ n ≤ 57)), if_pos (⟨rfl, by omega⟩ : true = true ∧ 97 ≤ n ∧ n ≤ 102)] at hv)
      | (rw [if_neg (by omega : ¬ (48 ≤ n ∧ n ≤ 57)), if_neg (fun h => by have := h.2; omega : ¬ (true = true ∧ 97 ≤ n ∧ n ≤ 102)), if_pos (⟨rfl, by omega⟩ : true = true ∧ 65 ≤ n ∧ n ≤ 70)] at hv)
      | (rw [if_neg (by omega : ¬ (48 ≤ n ∧ n ≤ 57)), if_neg (fun h => by have := h.2; omega : ¬ (true = true ∧ 97 ≤ n ∧ n ≤ 102)), if_neg (fun h => by have := h.2; omega : ¬ (true = true ∧ 65 ≤ n ∧ n ≤ 70))] at hv)
    have HV2 := Lib.hid hv
    clear hv
    first | have a3 : decide ((48 : Int) ≤ (n : Int)) = true := decide_eq_true (by omega) | have a3 : decide ((48 : Int) ≤ (n : Int)) = false := decide_eq_false (by omega)
    first | have a4 : decide ((n : Int) ≤ 57) = true := decide_eq_true (by omega) | have a4 : decide ((n : Int) ≤ 57) = false := decide_eq_false (by omega)
    first | have a1 : decide ((97 : Int) ≤ (n : Int)) = true := decide_eq_true (by omega) | have a1 : decide ((97 : Int) ≤ (n : Int)) = false := decide_eq_false (by omega)
    first | have a2 : decide ((n : Int) ≤ 102) = true := decide_eq_true (by omega) | have a2 : decide ((n : Int) ≤ 102) = false := decide_eq_false (by omega)
    first | have a5 : decide ((65 : Int) ≤ (n : Int)) = true := decide_eq_true (by omega) | have a5 : decide ((65 : Int) ≤ (n : Int)) = false := decide_eq_false (by omega)
    first | have a6 : decide ((n : Int) ≤ 70) = true := decide_eq_true (by omega) | have a6 : decide ((n : Int) ≤ 70) = false := decide_eq_false (by omega)
    first | (have b1 := q1 (by omega) (by omega); have b2 := q4 (by omega) (by omega); have b3 := z1 (by omega) (by omega); clear q1 q2 q3 q4 q5 q6 q7 q8 z1 z2 z3 z4 z5) | (have b1 := q2 (by omega) (by omega); have b2 := q5 (by omega) (by omega); have b3 := q7 (by omega) (by omega); have b4 := z2 (by omega) (by omega); have b5 := z4 (by omega) (by omega); clear q1 q2 q3 q4 q5 q6 q7 q8 z1 z2 z3 z4 z5) | (have b1 := q3 (by omega) (by omega); have b2 := q6 (by omega) (by omega); have b3 := q8 (by omega) (by omega); have b4 := z3 (by omega) (by omega); have b5 := z5 (by omega) (by omega); clear q1 q2 q3 q4 q5 q6 q7 q8 z1 z2 z3 z4 z5) | clear q1 q2 q3 q4 q5 q6 q7 q8 z1 z2 z3 z4 z5
    go_enter Tryz.func40, Tryz.ntmps40
    go_wp2_with fail
    go_ret
    refine ⟨?_, rfl⟩
    rw [← HV2.out]
    first
      | rfl
      | (rw [show (n : Int) - 87 = (n : Int) - 97 + 10 by omega]; rfl)
      | (rw [show (n : Int) - 55 = (n : Int) - 65 + 10 by omega]; rfl)
theorem byte1_text2 (W : World) (o o' : Obj) (b : UInt8) : (convert 53 9 (.slice (some ⟨W.heap.size + 1 + 1, 0, none⟩) 1 1)).run Tryz.prog (((W.alloc o).alloc o').alloc (.cells #[.int .u8 (b.toNat : Int)] 5)) = .ok (.string ⟨[b].toArray⟩) (((W.alloc o).alloc o').alloc (.cells #[.int .u8 (b.toNat : Int)] 5)) := by
  have h := byte1_text ((W.alloc o).alloc o') b
  rw [World.size_alloc, World.size_alloc] at h
  exact h
/-- A decoder stored into a block of eight cells. -/
theorem res8 {w W : World} {B n : Nat} {z0 z1 z2 z3 z4 z5 z6 z7 : Value} (h : CBlk 34 W B [z0, z1, z2, z3, z4, z5, z6, z7]) (hB : Below n w W) (hn : n ≤ B) (e : Dec) :
    CBlk 34 ((((((((W.setCell ⟨B, 0, none⟩ (.int .i64 (e.st : Int))).setCell ⟨B, 1, none⟩ (.int .i64 (e.size : Int))).setCell ⟨B, 2, none⟩ (.int .i64 (e.digits : Int))).setCell ⟨B, 3, none⟩ (.int .i64 (e.left : Int))).setCell ⟨B, 4, none⟩ (.string ⟨e.body.toArray⟩)).setCell ⟨B, 5, none⟩ (.string ⟨e.line.toArray⟩)).setCell ⟨B, 6, none⟩ (.int .i64 (e.lines : Int))).setCell ⟨B, 7, none⟩ (.int .i64 (e.status : Int))) B [.int .i64 (e.st : Int), .int .i64 (e.size : Int), .int .i64 (e.digits : Int), .int .i64 (e.left : Int), .string ⟨e.body.toArray⟩, .string ⟨e.line.toArray⟩, .int .i64 (e.lines : Int), .int .i64 (e.status : Int)] ∧ Below n w ((((((((W.setCell ⟨B, 0, none⟩ (.int .i64 (e.st : Int))).setCell ⟨B, 1, none⟩ (.int .i64 (e.size : Int))).setCell ⟨B, 2, none⟩ (.int .i64 (e.digits : Int))).setCell ⟨B, 3, none⟩ (.int .i64 (e.left : Int))).setCell ⟨B, 4, none⟩ (.string ⟨e.body.toArray⟩)).setCell ⟨B, 5, none⟩ (.string ⟨e.line.toArray⟩)).setCell ⟨B, 6, none⟩ (.int .i64 (e.lines : Int))).setCell ⟨B, 7, none⟩ (.int .i64 (e.status : Int))) :=
  ⟨(((((((h.set 0 (.int .i64 (e.st : Int))).set 1 (.int .i64 (e.size : Int))).set 2 (.int .i64 (e.digits : Int))).set 3 (.int .i64 (e.left : Int))).set 4 (.string ⟨e.body.toArray⟩)).set 5 (.string ⟨e.line.toArray⟩)).set 6 (.int .i64 (e.lines : Int))).set 7 (.int .i64 (e.status : Int)),
    (((((((hB.setCell (p := ⟨B, 0, none⟩) hn _).setCell (p := ⟨B, 1, none⟩) hn _).setCell (p := ⟨B, 2, none⟩) hn _).setCell (p := ⟨B, 3, none⟩) hn _).setCell (p := ⟨B, 4, none⟩) hn _).setCell (p := ⟨B, 5, none⟩) hn _).setCell (p := ⟨B, 6, none⟩) hn _).setCell (p := ⟨B, 7, none⟩) hn _⟩
theorem refOver_any (d : Dec) (w : World) :
    Calls Tryz.prog 29 #[decV d] w fun e w' => e = .returned (.bool (d.st == 7 || d.st == 8)) ∧ Below w.heap.size w w' := by
  have e7 : ((d.st : Int) == 7) = (d.st == 7) := by rw [Bool.eq_iff_iff, beq_iff_eq, beq_iff_eq]; omega
  have e8 : ((d.st : Int) == 8) = (d.st == 8) := by rw [Bool.eq_iff_iff, beq_iff_eq, beq_iff_eq]; omega
  have hB0 : Below w.heap.size w (w.alloc (.cells #[.int .i64 (d.st : Int), .int .i64 (d.size : Int), .int .i64 (d.digits : Int), .int .i64 (d.left : Int), .string ⟨d.body.toArray⟩, .string ⟨d.line.toArray⟩, .int .i64 (d.lines : Int), .int .i64 (d.status : Int)] 34)) := by go_grown
  obtain ⟨p, hp⟩ : ∃ p, (d.st == 7) = p := ⟨_, rfl⟩
  obtain ⟨q, hq⟩ : ∃ q, (d.st == 8) = q := ⟨_, rfl⟩
  rw [hp] at e7 ⊢
  rw [hq] at e8 ⊢
  clear hp hq
  unfold decV
  cases p
  all_goals
    go_enter Tryz.func29, Tryz.ntmps29
    go_wp2_with fail
    go_ret
    exact ⟨rfl, hB0⟩
set_option maxHeartbeats 2000000 in
theorem refBad_any (d : Dec) (s : Nat) (w : World) :
    Calls Tryz.prog 44 #[decV d, .int .i64 (s : Int)] w fun e w' => e = .returned (decV (d.bad s)) ∧ Below w.heap.size w w' := by
  unfold decV
  go_enter Tryz.func44, Tryz.ntmps44
  set_option maxRecDepth 10000 in
  go_wp2_with fail
  refine bodyPost_ret (chunks_results (B := w.heap.size + 1) (heap_alloc2_new w _ _) Tryz.results44 _ rfl) rfl ⟨rfl, ?_⟩
  go_grown
/-- What a size's line end makes of a decoder. -/
def szD (d : Dec) : Dec := if d.size = 0 then ⟨5, 0, 0, 0, d.body, [], 0, 0⟩ else if 2048 < d.body.length + d.size then d.bad 413 else ⟨2, 0, 0, d.size, d.body, [], 0, 0⟩
set_option maxHeartbeats 4000000 in
theorem refSized_any (d : Dec) (ok : d.Ok) (w : World) :
    Calls Tryz.prog 41 #[decV d] w fun e w' => e = .returned (decV (szD d)) ∧ Below w.heap.size w w' := by
  have hsz := size_le ok
  have hbl := ok.body
  have k0 : CBlk 34 ((w.alloc (.cells #[.int .i64 (d.st : Int), .int .i64 (d.size : Int), .int .i64 (d.digits : Int), .int .i64 (d.left : Int), .string ⟨d.body.toArray⟩, .string ⟨d.line.toArray⟩, .int .i64 (d.lines : Int), .int .i64 (d.status : Int)] 34)).alloc (.cells #[.int .i64 0, .int .i64 0, .int .i64 0, .int .i64 0, .string ⟨#[]⟩, .string ⟨#[]⟩, .int .i64 0, .int .i64 0] 34)) w.heap.size [.int .i64 (d.st : Int), .int .i64 (d.size : Int), .int .i64 (d.digits : Int), .int .i64 (d.left : Int), .string ⟨d.body.toArray⟩, .string ⟨d.line.toArray⟩, .int .i64 (d.lines : Int), .int .i64 (d.status : Int)] := (CBlk.new 34 w [.int .i64 (d.st : Int), .int .i64 (d.size : Int), .int .i64 (d.digits : Int), .int .i64 (d.left : Int), .string ⟨d.body.toArray⟩, .string ⟨d.line.toArray⟩, .int .i64 (d.lines : Int), .int .i64 (d.status : Int)]).alloc _
  have r0 : CBlk 34 ((w.alloc (.cells #[.int .i64 (d.st : Int), .int .i64 (d.size : Int), .int .i64 (d.digits : Int), .int .i64 (d.left : Int), .string ⟨d.body.toArray⟩, .string ⟨d.line.toArray⟩, .int .i64 (d.lines : Int), .int .i64 (d.status : Int)] 34)).alloc (.cells #[.int .i64 0, .int .i64 0, .int .i64 0, .int .i64 0, .string ⟨#[]⟩, .string ⟨#[]⟩, .int .i64 0, .int .i64 0] 34)) (w.heap.size + 1) [.int .i64 0, .int .i64 0, .int .i64 0, .int .i64 0, .string ⟨#[]⟩, .string ⟨#[]⟩, .int .i64 0, .int .i64 0] := heap_alloc2_new w _ _
  have hB0 : Below w.heap.size w ((w.alloc (.cells #[.int .i64 (d.st : Int), .int .i64 (d.size : Int), .int .i64 (d.digits : Int), .int .i64 (d.left : Int), .string ⟨d.body.toArray⟩, .string ⟨d.line.toArray⟩, .int .i64 (d.lines : Int), .int .i64 (d.status : Int)] 34)).alloc (.cells #[.int .i64 0, .int .i64 0, .int .i64 0, .int .i64 0, .string ⟨#[]⟩, .string ⟨#[]⟩, .int .i64 0, .int .i64 0] 34)) := by go_grown
  by_cases h0 : d.size = 0
  · have e0 : ((d.size : Int) == 0) = true := by rw [beq_iff_eq]; omega
    have HS : Hid (szD d = ⟨5, 0, 0, 0, d.body, [], 0, 0⟩) := Lib.hid (by unfold szD; rw [if_pos h0])
    clear h0
    unfold decV
    go_enter Tryz.func41, Tryz.ntmps41
    set_option maxRecDepth 10000 in
    go_wp2_with fail
    refine bodyPost_ret (chunks_results (B := w.heap.size + 1) (heap_alloc2_new w _ _) Tryz.results41 _ rfl) rfl ⟨by rw [HS.out]; rfl, ?_⟩
    go_grown
  · have e0 : ((d.size : Int) == 0) = false := by rw [beq_eq_false_iff_ne]; omega
    have ew : wrap64 ((d.body.length : Int) + (d.size : Int)) = (d.body.length : Int) + (d.size : Int) := by unfold wrap64; omega
    by_cases hm : 2048 < d.body.length + d.size
    · have em : decide ((2048 : Int) < (d.body.length : Int) + (d.size : Int)) = true := decide_eq_true (by omega)
      have emN : decide (2048 < d.body.length + d.size) = true := decide_eq_true hm
      have HS : Hid (szD d = d.bad 413) := Lib.hid (by unfold szD; rw [if_neg h0, if_pos hm])
      clear h0 hm
      unfold decV
      go_enter Tryz.func41, Tryz.ntmps41
      set_option maxRecDepth 10000 in
      go_wp2_with fail
      refine (refBad_any d 413 _).mono ?_
      rintro e w1 ⟨rfl, hb1⟩
      have r1 := r0.below hb1 r0.lt
      have hB1 := hB0.trans (hb1.mono hB0.size)
      have hR := res8 r1 hB1 (by omega) (d.bad 413)
      have x0 := r1.cell 0 (by simp)
      have x1 := r1.cell 1 (by simp)
      have x2 := r1.cell 2 (by simp)
      have x3 := r1.cell 3 (by simp)
      have x4 := r1.cell 4 (by simp)
      have x5 := r1.cell 5 (by simp)
      have x6 := r1.cell 6 (by simp)
      have x7 := r1.cell 7 (by simp)
      simp only [List.getElem_cons_zero, List.getElem_cons_succ] at x0 x1 x2 x3 x4 x5 x6 x7
      have y0 := r1.free 0
      have y1 := r1.free 1
      have y2 := r1.free 2
      have y3 := r1.free 3
      have y4 := r1.free 4
      have y5 := r1.free 5
      have y6 := r1.free 6
      have y7 := r1.free 7
      unfold decV
      go_wp2_with fail
      exact bodyPost_ret (chunks_results hR.1 Tryz.results41 _ rfl) rfl ⟨by rw [HS.out], hR.2⟩
    · have em : decide ((2048 : Int) < (d.body.length : Int) + (d.size : Int)) = false := decide_eq_false (by omega)
      have emN : decide (2048 < d.body.length + d.size) = false := decide_eq_false hm
      have HS : Hid (szD d = ⟨2, 0, 0, d.size, d.body, [], 0, 0⟩) := Lib.hid (by unfold szD; rw [if_neg h0, if_neg hm])
      clear h0 hm
      unfold decV
      go_enter Tryz.func41, Tryz.ntmps41
      set_option maxRecDepth 10000 in
      go_wp2_with fail
      refine bodyPost_ret (chunks_results (B := w.heap.size + 1) (heap_alloc2_new w _ _) Tryz.results41 _ rfl) rfl ⟨by rw [HS.out]; rfl, ?_⟩
      go_grown
set_option maxHeartbeats 4000000 in
theorem refTrailer_any (d : Dec) (ok : d.Ok) (b : UInt8) (w : World) :
    Calls Tryz.prog 42 #[decV d, .int .u8 (b.toNat : Int)] w fun e w' => e = .returned (decV (st5 d b)) ∧ Below w.heap.size w w' := by
  have hll := ok.line
  clear ok
  obtain ⟨st, size, digits, left, body, line, lines, status⟩ := d
  dsimp only at hll
  simp only [decV]
  by_cases h13 : b.toNat = 13
  · have e13 : ((b.toNat : Int) == 13) = true := by rw [beq_iff_eq]; omega
    have HS : Hid (st5 ⟨st, size, digits, left, body, line, lines, status⟩ b = { st := 6, size := size, digits := digits, left := left, body := body, line := line, lines := lines, status := status }) := Lib.hid (by unfold st5; rw [if_pos h13])
    clear h13
    go_enter Tryz.func42, Tryz.ntmps42
    set_option maxRecDepth 10000 in
    go_wp2_with fail
    refine bodyPost_ret (chunks_results (B := w.heap.size + 1) (heap_alloc2_new w _ _) Tryz.results42 _ rfl) rfl ⟨by rw [HS.out]; rfl, ?_⟩
    go_grown
  · have e13 : ((b.toNat : Int) == 13) = false := by rw [beq_eq_false_iff_ne]; omega
    by_cases h10 : b.toNat = 10
    · have e10 : ((b.toNat : Int) == 10) = true := by rw [beq_iff_eq]; omega
      have HS : Hid (st5 ⟨st, size, digits, left, body, line, lines, status⟩ b = Dec.bad ⟨st, size, digits, left, body, line, lines, status⟩ 400) := Lib.hid (by unfold st5; rw [if_neg h13, if_pos h10])
      clear h13 h10
      have r0 : CBlk 34 ((w.alloc (.cells #[.int .i64 (st : Int), .int .i64 (size : Int), .int .i64 (digits : Int), .int .i64 (left : Int), .string ⟨body.toArray⟩, .string ⟨line.toArray⟩, .int .i64 (lines : Int), .int .i64 (status : Int)] 34)).alloc (.cells #[.int .i64 0, .int .i64 0, .int .i64 0, .int .i64 0, .string ⟨#[]⟩, .string ⟨#[]⟩, .int .i64 0, .int .i64 0] 34)) (w.heap.size + 1) [.int .i64 0, .int .i64 0, .int .i64 0, .int .i64 0, .string ⟨#[]⟩, .string ⟨#[]⟩, .int .i64 0, .int .i64 0] := heap_alloc2_new w _ _
      have hB0 : Below w.heap.size w ((w.alloc (.cells #[.int .i64 (st : Int), .int .i64 (size : Int), .int .i64 (digits : Int), .int .i64 (left : Int), .string ⟨body.toArray⟩, .string ⟨line.toArray⟩, .int .i64 (lines : Int), .int .i64 (status : Int)] 34)).alloc (.cells #[.int .i64 0, .int .i64 0, .int .i64 0, .int .i64 0, .string ⟨#[]⟩, .string ⟨#[]⟩, .int .i64 0, .int .i64 0] 34)) := by go_grown
      go_enter Tryz.func42, Tryz.ntmps42
      set_option maxRecDepth 10000 in
      go_wp2_with fail
      refine (refBad_any ⟨st, size, digits, left, body, line, lines, status⟩ 400 _).mono ?_
      rintro e w1 ⟨rfl, hb1⟩
      have r1 := r0.below hb1 r0.lt
      have hB1 := hB0.trans (hb1.mono hB0.size)
      have hR := res8 r1 hB1 (by omega) (Dec.bad ⟨st, size, digits, left, body, line, lines, status⟩ 400)
      have x0 := r1.cell 0 (by simp)
      have x1 := r1.cell 1 (by simp)
      have x2 := r1.cell 2 (by simp)
      have x3 := r1.cell 3 (by simp)
      have x4 := r1.cell 4 (by simp)
      have x5 := r1.cell 5 (by simp)
      have x6 := r1.cell 6 (by simp)
      have x7 := r1.cell 7 (by simp)
      simp only [List.getElem_cons_zero, List.getElem_cons_succ] at x0 x1 x2 x3 x4 x5 x6 x7
      have y0 := r1.free 0
      have y1 := r1.free 1
      have y2 := r1.free 2
      have y3 := r1.free 3
      have y4 := r1.free 4
      have y5 := r1.free 5
      have y6 := r1.free 6
      have y7 := r1.free 7
      unfold decV
      go_wp2_with fail
      exact bodyPost_ret (chunks_results hR.1 Tryz.results42 _ rfl) rfl ⟨by rw [HS.out], hR.2⟩
    · have e10 : ((b.toNat : Int) == 10) = false := by rw [beq_eq_false_iff_ne]; omega
      have hst : st5 ⟨st, size, digits, left, body, line, lines, status⟩ b = if (line = [] ∧ lines = 32) ∨ line.length = 512 then Dec.bad ⟨st, size, digits, left, body, line, lines, status⟩ 431 else ⟨st, size, digits, left, body, (line ++ [b]), lines, status⟩ := by
        unfold st5; rw [if_neg h13, if_neg h10]
      obtain ⟨T, hT⟩ : ∃ T, line ++ [b] = T := ⟨_, rfl⟩
      have s1 : ∀ w, (Op.stringOp .add ⟨line.toArray⟩ ⟨[b].toArray⟩).run Tryz.prog w = .ok (.string ⟨T.toArray⟩) w := fun w => by
        rw [← hT]
        exact cstr_add line [b] (by unfold CSmall; simp; omega)
      have s2 : ∀ w, (Op.stringOp .add ⟨line.toArray⟩ ⟨#[b]⟩).run Tryz.prog w = .ok (.string ⟨T.toArray⟩) w := s1
      have k3 := fun W o o' => byte1_text2 W o o' b
      rw [hT] at hst
      clear h13 h10 hT
      cases line with
      | nil =>
        by_cases h32 : lines = 32
        · have e32 : ((lines : Int) == 32) = true := by rw [beq_iff_eq]; omega
          have HS : Hid (st5 ⟨st, size, digits, left, body, [], lines, status⟩ b = Dec.bad ⟨st, size, digits, left, body, [], lines, status⟩ 431) := Lib.hid (by rw [hst, if_pos (.inl ⟨rfl, h32⟩)])
          clear hst h32
          have r0 : CBlk 34 ((w.alloc (.cells #[.int .i64 (st : Int), .int .i64 (size : Int), .int .i64 (digits : Int), .int .i64 (left : Int), .string ⟨body.toArray⟩, .string ⟨#[]⟩, .int .i64 (lines : Int), .int .i64 (status : Int)] 34)).alloc (.cells #[.int .i64 0, .int .i64 0, .int .i64 0, .int .i64 0, .string ⟨#[]⟩, .string ⟨#[]⟩, .int .i64 0, .int .i64 0] 34)) (w.heap.size + 1) [.int .i64 0, .int .i64 0, .int .i64 0, .int .i64 0, .string ⟨#[]⟩, .string ⟨#[]⟩, .int .i64 0, .int .i64 0] := heap_alloc2_new w _ _
          have hB0 : Below w.heap.size w ((w.alloc (.cells #[.int .i64 (st : Int), .int .i64 (size : Int), .int .i64 (digits : Int), .int .i64 (left : Int), .string ⟨body.toArray⟩, .string ⟨#[]⟩, .int .i64 (lines : Int), .int .i64 (status : Int)] 34)).alloc (.cells #[.int .i64 0, .int .i64 0, .int .i64 0, .int .i64 0, .string ⟨#[]⟩, .string ⟨#[]⟩, .int .i64 0, .int .i64 0] 34)) := by go_grown
          go_enter Tryz.func42, Tryz.ntmps42
          set_option maxRecDepth 10000 in
          go_wp2_with fail
          refine (refBad_any ⟨st, size, digits, left, body, [], lines, status⟩ 431 _).mono ?_
          rintro e w1 ⟨rfl, hb1⟩
          have r1 := r0.below hb1 r0.lt
          have hB1 := hB0.trans (hb1.mono hB0.size)
          have hR := res8 r1 hB1 (by omega) (Dec.bad ⟨st, size, digits, left, body, [], lines, status⟩ 431)
          have x0 := r1.cell 0 (by simp)
          have x1 := r1.cell 1 (by simp)
          have x2 := r1.cell 2 (by simp)
          have x3 := r1.cell 3 (by simp)
          have x4 := r1.cell 4 (by simp)
          have x5 := r1.cell 5 (by simp)
          have x6 := r1.cell 6 (by simp)
          have x7 := r1.cell 7 (by simp)
          simp only [List.getElem_cons_zero, List.getElem_cons_succ] at x0 x1 x2 x3 x4 x5 x6 x7
          have y0 := r1.free 0
          have y1 := r1.free 1
          have y2 := r1.free 2
          have y3 := r1.free 3
          have y4 := r1.free 4
          have y5 := r1.free 5
          have y6 := r1.free 6
          have y7 := r1.free 7
          unfold decV
          go_wp2_with fail
          exact bodyPost_ret (chunks_results hR.1 Tryz.results42 _ rfl) rfl ⟨by rw [HS.out], hR.2⟩
        · have e32 : ((lines : Int) == 32) = false := by rw [beq_eq_false_iff_ne]; omega
          have HS : Hid (st5 ⟨st, size, digits, left, body, [], lines, status⟩ b = ⟨st, size, digits, left, body, T, lines, status⟩) := Lib.hid (by rw [hst, if_neg (by simp; omega)])
          clear hst h32
          go_enter Tryz.func42, Tryz.ntmps42
          set_option maxRecDepth 10000 in
          go_wp2_with fail
          refine bodyPost_ret (chunks_results (B := w.heap.size + 1) (CBlk.alloc (heap_alloc2_new w _ _) _) Tryz.results42 _ rfl) rfl ⟨by rw [HS.out], ?_⟩
          go_grown
      | cons x r =>
        obtain ⟨n, hn⟩ : ∃ n, (x :: r).length = n := ⟨_, rfl⟩
        by_cases h512 : n = 512
        · have HS : Hid (st5 ⟨st, size, digits, left, body, (x :: r), lines, status⟩ b = Dec.bad ⟨st, size, digits, left, body, (x :: r), lines, status⟩ 431) := Lib.hid (by rw [hst, if_pos (.inr (by rw [hn]; exact h512))])
          have e512 : (((x :: r).length : Int) == 512) = true := by rw [hn, beq_iff_eq]; omega
          have e511 : ((r.length : Int) + 1 == 512) = true := by rw [beq_iff_eq]; simp at hn; omega
          clear hst h512 hn hll
          have r0 : CBlk 34 ((w.alloc (.cells #[.int .i64 (st : Int), .int .i64 (size : Int), .int .i64 (digits : Int), .int .i64 (left : Int), .string ⟨body.toArray⟩, .string ⟨(x :: r).toArray⟩, .int .i64 (lines : Int), .int .i64 (status : Int)] 34)).alloc (.cells #[.int .i64 0, .int .i64 0, .int .i64 0, .int .i64 0, .string ⟨#[]⟩, .string ⟨#[]⟩, .int .i64 0, .int .i64 0] 34)) (w.heap.size + 1) [.int .i64 0, .int .i64 0, .int .i64 0, .int .i64 0, .string ⟨#[]⟩, .string ⟨#[]⟩, .int .i64 0, .int .i64 0] := heap_alloc2_new w _ _
          have hB0 : Below w.heap.size w ((w.alloc (.cells #[.int .i64 (st : Int), .int .i64 (size : Int), .int .i64 (digits : Int), .int .i64 (left : Int), .string ⟨body.toArray⟩, .string ⟨(x :: r).toArray⟩, .int .i64 (lines : Int), .int .i64 (status : Int)] 34)).alloc (.cells #[.int .i64 0, .int .i64 0, .int .i64 0, .int .i64 0, .string ⟨#[]⟩, .string ⟨#[]⟩, .int .i64 0, .int .i64 0] 34)) := by go_grown
          go_enter Tryz.func42, Tryz.ntmps42
          set_option maxRecDepth 10000 in
          go_wp2_with fail
          refine (refBad_any ⟨st, size, digits, left, body, (x :: r), lines, status⟩ 431 _).mono ?_
          rintro e w1 ⟨rfl, hb1⟩
          have r1 := r0.below hb1 r0.lt
          have hB1 := hB0.trans (hb1.mono hB0.size)
          have hR := res8 r1 hB1 (by omega) (Dec.bad ⟨st, size, digits, left, body, (x :: r), lines, status⟩ 431)
          have x0 := r1.cell 0 (by simp)
          have x1 := r1.cell 1 (by simp)
          have x2 := r1.cell 2 (by simp)
          have x3 := r1.cell 3 (by simp)
          have x4 := r1.cell 4 (by simp)
          have x5 := r1.cell 5 (by simp)
          have x6 := r1.cell 6 (by simp)
          have x7 := r1.cell 7 (by simp)
          simp only [List.getElem_cons_zero, List.getElem_cons_succ] at x0 x1 x2 x3 x4 x5 x6 x7
          have y0 := r1.free 0
          have y1 := r1.free 1
          have y2 := r1.free 2
          have y3 := r1.free 3
          have y4 := r1.free 4
          have y5 := r1.free 5
          have y6 := r1.free 6
          have y7 := r1.free 7
          unfold decV
          go_wp2_with fail
          exact bodyPost_ret (chunks_results hR.1 Tryz.results42 _ rfl) rfl ⟨by rw [HS.out], hR.2⟩
        · have HS : Hid (st5 ⟨st, size, digits, left, body, (x :: r), lines, status⟩ b = ⟨st, size, digits, left, body, T, lines, status⟩) := Lib.hid (by rw [hst, if_neg (by simp at hn ⊢; omega)])
          have e512 : (((x :: r).length : Int) == 512) = false := by rw [hn, beq_eq_false_iff_ne]; omega
          have e511 : ((r.length : Int) + 1 == 512) = false := by rw [beq_eq_false_iff_ne]; simp at hn; omega
          clear hst h512 hn hll
          go_enter Tryz.func42, Tryz.ntmps42
          set_option maxRecDepth 10000 in
          go_wp2_with fail
          refine bodyPost_ret (chunks_results (B := w.heap.size + 1) (CBlk.alloc (heap_alloc2_new w _ _) _) Tryz.results42 _ rfl) rfl ⟨by rw [HS.out], ?_⟩
          go_grown
/-- What a trailer line's end makes of a decoder. -/
def endD (d : Dec) : Dec := if d.line = [] then { d with st := 7 } else if trlB d.line = true then ⟨5, 0, 0, 0, d.body, [], d.lines + 1, 0⟩ else d.bad 400
set_option maxHeartbeats 4000000 in
theorem refEnded_any (d : Dec) (ok : d.Ok) (w : World) :
    Calls Tryz.prog 43 #[decV d] w fun e w' => e = .returned (decV (endD d)) ∧ Below w.heap.size w w' := by
  have hll := ok.line
  have hls := ok.lines
  clear ok
  obtain ⟨st, size, digits, left, body, line, lines, status⟩ := d
  dsimp only at hll hls
  simp only [decV]
  have hst : endD ⟨st, size, digits, left, body, line, lines, status⟩ = if line = [] then ⟨7, size, digits, left, body, line, lines, status⟩ else if trlB line = true then ⟨5, 0, 0, 0, body, [], lines + 1, 0⟩ else Dec.bad ⟨st, size, digits, left, body, line, lines, status⟩ 400 := rfl
  cases line with
  | nil =>
    have HS : Hid (endD ⟨st, size, digits, left, body, [], lines, status⟩ = ⟨7, size, digits, left, body, [], lines, status⟩) := Lib.hid (by rw [hst, if_pos rfl])
    clear hst
    go_enter Tryz.func43, Tryz.ntmps43
    set_option maxRecDepth 10000 in
    go_wp2_with fail
    refine bodyPost_ret (chunks_results (B := w.heap.size + 1) (heap_alloc2_new w _ _) Tryz.results43 _ rfl) rfl ⟨by rw [HS.out]; rfl, ?_⟩
    go_grown
  | cons x r =>
    have HC := Lib.hid fun W => refColon_any (x :: r) (by omega) W
    obtain ⟨y, hy⟩ : ∃ y, (colR (x :: r)).2.2 = y := ⟨_, rfl⟩
    have HV : Hid (colV (x :: r) = .tuple #[.string ⟨(colR (x :: r)).1.toArray⟩, .string ⟨(colR (x :: r)).2.1.toArray⟩, .int .i64 (y : Nat)]) := Lib.hid (by unfold colV; rw [hy])
    have hq : trlB (x :: r) = (y == 0) := by unfold trlB; rw [hy]
    clear hy
    have rz : CBlk 34 ((w.alloc (.cells #[.int .i64 (st : Int), .int .i64 (size : Int), .int .i64 (digits : Int), .int .i64 (left : Int), .string ⟨body.toArray⟩, .string ⟨(x :: r).toArray⟩, .int .i64 (lines : Int), .int .i64 (status : Int)] 34)).alloc (.cells #[.int .i64 0, .int .i64 0, .int .i64 0, .int .i64 0, .string ⟨#[]⟩, .string ⟨#[]⟩, .int .i64 0, .int .i64 0] 34)) (w.heap.size + 1) [.int .i64 0, .int .i64 0, .int .i64 0, .int .i64 0, .string ⟨#[]⟩, .string ⟨#[]⟩, .int .i64 0, .int .i64 0] := heap_alloc2_new w _ _
    have hBz : Below w.heap.size w ((w.alloc (.cells #[.int .i64 (st : Int), .int .i64 (size : Int), .int .i64 (digits : Int), .int .i64 (left : Int), .string ⟨body.toArray⟩, .string ⟨(x :: r).toArray⟩, .int .i64 (lines : Int), .int .i64 (status : Int)] 34)).alloc (.cells #[.int .i64 0, .int .i64 0, .int .i64 0, .int .i64 0, .string ⟨#[]⟩, .string ⟨#[]⟩, .int .i64 0, .int .i64 0] 34)) := by go_grown
    have k0 : CBlk 34 ((w.alloc (.cells #[.int .i64 (st : Int), .int .i64 (size : Int), .int .i64 (digits : Int), .int .i64 (left : Int), .string ⟨body.toArray⟩, .string ⟨(x :: r).toArray⟩, .int .i64 (lines : Int), .int .i64 (status : Int)] 34)).alloc (.cells #[.int .i64 0, .int .i64 0, .int .i64 0, .int .i64 0, .string ⟨#[]⟩, .string ⟨#[]⟩, .int .i64 0, .int .i64 0] 34)) w.heap.size [.int .i64 (st : Int), .int .i64 (size : Int), .int .i64 (digits : Int), .int .i64 (left : Int), .string ⟨body.toArray⟩, .string ⟨(x :: r).toArray⟩, .int .i64 (lines : Int), .int .i64 (status : Int)] := (CBlk.new 34 w [.int .i64 (st : Int), .int .i64 (size : Int), .int .i64 (digits : Int), .int .i64 (left : Int), .string ⟨body.toArray⟩, .string ⟨(x :: r).toArray⟩, .int .i64 (lines : Int), .int .i64 (status : Int)]).alloc _
    by_cases h0 : y = 0
    · have e0 : ((y : Int) != 0) = false := by rw [bne_eq_false_iff_eq]; omega
      have HS : Hid (endD ⟨st, size, digits, left, body, (x :: r), lines, status⟩ = ⟨5, 0, 0, 0, body, [], lines + 1, 0⟩) := Lib.hid (by rw [hst, if_neg (by simp), if_pos (by rw [hq, h0]; rfl)])
      have hw : wrap64 ((lines : Int) + 1) = ((lines + 1 : Nat) : Int) := by unfold wrap64; omega
      have hw2 : IntKind.i64.wrap ((lines : Int) + 1) = ((lines + 1 : Nat) : Int) := by rw [IntKind.wrap_i64]; omega
      obtain ⟨n, hn⟩ : ∃ n, lines + 1 = n := ⟨_, rfl⟩
      rw [hn] at hw hw2
      have HN := Lib.hid hn
      clear hst hls hn h0 hq hll
      go_enter Tryz.func43, Tryz.ntmps43
      set_option maxRecDepth 10000 in
      go_wp2_with fail
      refine (HC.out _).mono ?_
      rintro e w1 ⟨rfl, hb1⟩
      rw [HV.out]
      have k1 := k0.below hb1 k0.lt
      have r1 := rz.below hb1 rz.lt
      have hB1 := hBz.trans (hb1.mono hBz.size)
      have hR := res8 r1 hB1 (by omega) ⟨5, 0, 0, 0, body, [], n, 0⟩
      have x0 := r1.cell 0 (by simp)
      have x1 := r1.cell 1 (by simp)
      have x2 := r1.cell 2 (by simp)
      have x3 := r1.cell 3 (by simp)
      have x4 := r1.cell 4 (by simp)
      have x5 := r1.cell 5 (by simp)
      have x6 := r1.cell 6 (by simp)
      have x7 := r1.cell 7 (by simp)
      have z0 := k1.cell 0 (by simp)
      have z1 := k1.cell 1 (by simp)
      have z2 := k1.cell 2 (by simp)
      have z3 := k1.cell 3 (by simp)
      have z4 := k1.cell 4 (by simp)
      have z5 := k1.cell 5 (by simp)
      have z6 := k1.cell 6 (by simp)
      have z7 := k1.cell 7 (by simp)
      simp only [List.getElem_cons_zero, List.getElem_cons_succ] at x0 x1 x2 x3 x4 x5 x6 x7 z0 z1 z2 z3 z4 z5 z6 z7
      have y0 := r1.free 0
      have y1 := r1.free 1
      have y2 := r1.free 2
      have y3 := r1.free 3
      have y4 := r1.free 4
      have y5 := r1.free 5
      have y6 := r1.free 6
      have y7 := r1.free 7
      go_wp2_with fail
      exact bodyPost_ret (chunks_results hR.1 Tryz.results43 _ rfl) rfl ⟨by rw [HS.out, HN.out], hR.2⟩
    · have e0 : ((y : Int) != 0) = true := by rw [bne_iff_ne]; omega
      have HS : Hid (endD ⟨st, size, digits, left, body, (x :: r), lines, status⟩ = Dec.bad ⟨st, size, digits, left, body, (x :: r), lines, status⟩ 400) := Lib.hid (by rw [hst, if_neg (by simp), if_neg (by rw [hq, beq_iff_eq]; exact h0)])
      clear hst hls h0 hq hll
      go_enter Tryz.func43, Tryz.ntmps43
      set_option maxRecDepth 10000 in
      go_wp2_with fail
      refine (HC.out _).mono ?_
      rintro e w0 ⟨rfl, hb0⟩
      rw [HV.out]
      have k1 := k0.below hb0 k0.lt
      have r0 := rz.below hb0 rz.lt
      have hB0 := hBz.trans (hb0.mono hBz.size)
      have z0 := k1.cell 0 (by simp)
      have z1 := k1.cell 1 (by simp)
      have z2 := k1.cell 2 (by simp)
      have z3 := k1.cell 3 (by simp)
      have z4 := k1.cell 4 (by simp)
      have z5 := k1.cell 5 (by simp)
      have z6 := k1.cell 6 (by simp)
      have z7 := k1.cell 7 (by simp)
      simp only [List.getElem_cons_zero, List.getElem_cons_succ] at z0 z1 z2 z3 z4 z5 z6 z7
      go_wp2_with fail
      refine (refBad_any ⟨st, size, digits, left, body, (x :: r), lines, status⟩ 400 _).mono ?_
      rintro e w1 ⟨rfl, hb1⟩
      have r1 := r0.below hb1 r0.lt
      have hB1 := hB0.trans (hb1.mono hB0.size)
      have hR := res8 r1 hB1 (by omega) (Dec.bad ⟨st, size, digits, left, body, (x :: r), lines, status⟩ 400)
      have x0 := r1.cell 0 (by simp)
      have x1 := r1.cell 1 (by simp)
      have x2 := r1.cell 2 (by simp)
      have x3 := r1.cell 3 (by simp)
      have x4 := r1.cell 4 (by simp)
      have x5 := r1.cell 5 (by simp)
      have x6 := r1.cell 6 (by simp)
      have x7 := r1.cell 7 (by simp)
      simp only [List.getElem_cons_zero, List.getElem_cons_succ] at x0 x1 x2 x3 x4 x5 x6 x7
      have y0 := r1.free 0
      have y1 := r1.free 1
      have y2 := r1.free 2
      have y3 := r1.free 3
      have y4 := r1.free 4
      have y5 := r1.free 5
      have y6 := r1.free 6
      have y7 := r1.free 7
      unfold decV
      go_wp2_with fail
      exact bodyPost_ret (chunks_results hR.1 Tryz.results43 _ rfl) rfl ⟨by rw [HS.out], hR.2⟩
end Go.Proofs.YtbafmiejgpgamaaGreatDoor
