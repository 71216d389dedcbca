/-
  chunked.Check finds nothing wrong with a new decoder, and with one in whose first chunk some data is to come.
-/
import Derived.Test.YtbafmiejgpgamaaGreatDoorCMap
namespace Go.Proofs.YtbafmiejgpgamaaGreatDoor
open Go.RowKit
theorem sizeFits_any (k : Nat) (hk : k = 0 ∨ k = 8) (w : World) :
    Calls Tryz.prog 47 #[.int .i64 0, .int .i64 (k : Int)] w fun e w' => e = .returned (.bool true) ∧ Below w.heap.size w w' := by
  rcases hk with rfl | rfl
  all_goals
    go_enter Tryz.func47, Tryz.ntmps47
    go_wp2_with fail
    go_ret
    exact ⟨rfl, Below.refl _ _⟩
theorem isWithin_any (n m : Nat) (h : n ≤ m) (w : World) :
    Calls Tryz.prog 48 #[.int .i64 (n : Int), .int .i64 (m : Int)] w fun e w' => e = .returned (.bool true) ∧ Below w.heap.size w w' := by
  have h1 : decide ((0 : Int) ≤ (n : Int)) = true := decide_eq_true (by omega)
  have h2 : decide ((n : Int) ≤ (m : Int)) = true := decide_eq_true (by omega)
  have h3 : decide (n ≤ m) = true := decide_eq_true h
  clear h
  go_enter Tryz.func48, Tryz.ntmps48
  go_wp2_with fail
  go_ret
  exact ⟨rfl, Below.refl _ _⟩
theorem index0_any (B : Nat) (w : World) (h : w.cell? ⟨B, 0, none⟩ = some (.int .i64 0)) :
    Calls Tryz.prog 64 #[.slice (some ⟨B, 0, none⟩) 4 4, .int .i64 0] w fun e w' => e = .returned (.int .i64 0) ∧ Below w.heap.size w w' := by
  go_enter Tryz.func64, Tryz.ntmps64
  go_wp2_with fail
  refine wp_loop_rounds 1 ?_
  rw [rounds_succ]
  go_wp2_with fail
  go_ret
  exact ⟨rfl, Below.refl _ _⟩
theorem contains0_any (B : Nat) (w : World) (h : w.cell? ⟨B, 0, none⟩ = some (.int .i64 0)) :
    Calls Tryz.prog 49 #[.slice (some ⟨B, 0, none⟩) 4 4, .int .i64 0] w fun e w' => e = .returned (.bool true) ∧ Below w.heap.size w w' := by
  go_enter Tryz.func49, Tryz.ntmps49
  go_wp2_with fail
  refine (index0_any B w h).mono ?_
  rintro e w' ⟨rfl, hb⟩
  go_wp2_with fail
  go_ret
  exact ⟨rfl, hb⟩
theorem containsAny_any (w : World) :
    Calls Tryz.prog 52 #[.string ⟨#[]⟩, .string ⟨#[13, 10]⟩] w fun e w' => e = .returned (.bool false) ∧ Below w.heap.size w w' :=
  Any.strings_ContainsAny_laid lays150 info256 ⟨#[]⟩ ⟨#[13, 10]⟩ w (by decide) (by decide) (fun j b hb => by simp at hb) (fun j b hb => by
    match j with
    | 0 => simp at hb; subst hb; decide
    | 1 => simp at hb; subst hb; decide
    | j + 2 => simp at hb)
/-- A decoder. -/
def newV : Value := .agg #[.int .i64 0, .int .i64 0, .int .i64 0, .int .i64 0, .string ⟨#[]⟩, .string ⟨#[]⟩, .int .i64 0, .int .i64 0]
theorem eq_new (w : World) : (Op.equalIn 10000 34 (.agg #[.int .i64 0, .int .i64 0, .int .i64 0, .int .i64 0, .string ⟨#[]⟩, .string ⟨#[]⟩, .int .i64 0, .int .i64 0]) (.agg #[.int .i64 0, .int .i64 0, .int .i64 0, .int .i64 0, .string ⟨#[]⟩, .string ⟨#[]⟩, .int .i64 0, .int .i64 0])).run Tryz.prog w = .ok true w := by kernel_rfl
set_option maxHeartbeats 4000000 in
theorem numbersFit_new (w : World) :
    Calls Tryz.prog 34 #[.agg #[.int .i64 0, .int .i64 0, .int .i64 0, .int .i64 0, .string ⟨#[]⟩, .string ⟨#[]⟩, .int .i64 0, .int .i64 0]] w fun e w' => e = .returned (.bool true) ∧ Below w.heap.size w w' := by
  have k0 := CBlk.new 34 w [.int .i64 0, .int .i64 0, .int .i64 0, .int .i64 0, .string ⟨#[]⟩, .string ⟨#[]⟩, .int .i64 0, .int .i64 0]
  have hB0 := (Below.refl w.heap.size w).alloc (Nat.le_refl _) (.cells #[.int .i64 0, .int .i64 0, .int .i64 0, .int .i64 0, .string ⟨#[]⟩, .string ⟨#[]⟩, .int .i64 0, .int .i64 0] 34)
  have k0' : CBlk 34 (w.alloc (.cells #[.int .i64 0, .int .i64 0, .int .i64 0, .int .i64 0, .string ⟨#[]⟩, .string ⟨#[]⟩, .int .i64 0, .int .i64 0] 34)) w.heap.size [.int .i64 0, .int .i64 0, .int .i64 0, .int .i64 0, .string ⟨#[]⟩, .string ⟨#[]⟩, .int .i64 0, .int .i64 0] := k0
  go_enter Tryz.func34, Tryz.ntmps34
  go_wp2_with fail
  refine (sizeFits_any 8 (.inr rfl) _).mono ?_
  rintro e w1 ⟨rfl, hb1⟩
  have k1 := k0'.below hb1 k0'.lt
  have hB1 := hB0.trans (hb1.mono hB0.size)
  have c1_0 := k1.cell 0 (by simp)
  have c1_1 := k1.cell 1 (by simp)
  have c1_2 := k1.cell 2 (by simp)
  have c1_3 := k1.cell 3 (by simp)
  have c1_4 := k1.cell 4 (by simp)
  have c1_5 := k1.cell 5 (by simp)
  have c1_6 := k1.cell 6 (by simp)
  have c1_7 := k1.cell 7 (by simp)
  simp only [List.getElem_cons_zero, List.getElem_cons_succ] at c1_0 c1_1 c1_2 c1_3 c1_4 c1_5 c1_6 c1_7
  go_wp2_with fail
  refine (isWithin_any 0 8 (by omega) _).mono ?_
  rintro e w2 ⟨rfl, hb2⟩
  have k2 := k1.below hb2 k1.lt
  have hB2 := hB1.trans (hb2.mono hB1.size)
  have c2_0 := k2.cell 0 (by simp)
  have c2_1 := k2.cell 1 (by simp)
  have c2_2 := k2.cell 2 (by simp)
  have c2_3 := k2.cell 3 (by simp)
  have c2_4 := k2.cell 4 (by simp)
  have c2_5 := k2.cell 5 (by simp)
  have c2_6 := k2.cell 6 (by simp)
  have c2_7 := k2.cell 7 (by simp)
  simp only [List.getElem_cons_zero, List.getElem_cons_succ] at c2_0 c2_1 c2_2 c2_3 c2_4 c2_5 c2_6 c2_7
  clear c1_0 c1_1 c1_2 c1_3 c1_4 c1_5 c1_6 c1_7
  go_wp2_with fail
  refine (isWithin_any 0 2048 (by omega) _).mono ?_
  rintro e w3 ⟨rfl, hb3⟩
  have k3 := k2.below hb3 k2.lt
  have hB3 := hB2.trans (hb3.mono hB2.size)
  have c3_0 := k3.cell 0 (by simp)
  have c3_1 := k3.cell 1 (by simp)
  have c3_2 := k3.cell 2 (by simp)
  have c3_3 := k3.cell 3 (by simp)
  have c3_4 := k3.cell 4 (by simp)
  have c3_5 := k3.cell 5 (by simp)
  have c3_6 := k3.cell 6 (by simp)
  have c3_7 := k3.cell 7 (by simp)
  simp only [List.getElem_cons_zero, List.getElem_cons_succ] at c3_0 c3_1 c3_2 c3_3 c3_4 c3_5 c3_6 c3_7
  clear c2_0 c2_1 c2_2 c2_3 c2_4 c2_5 c2_6 c2_7
  go_wp2_with fail
  refine (isWithin_any 0 32 (by omega) _).mono ?_
  rintro e w4 ⟨rfl, hb4⟩
  have k4 := k3.below hb4 k3.lt
  have hB4 := hB3.trans (hb4.mono hB3.size)
  have c4_0 := k4.cell 0 (by simp)
  have c4_1 := k4.cell 1 (by simp)
  have c4_2 := k4.cell 2 (by simp)
  have c4_3 := k4.cell 3 (by simp)
  have c4_4 := k4.cell 4 (by simp)
  have c4_5 := k4.cell 5 (by simp)
  have c4_6 := k4.cell 6 (by simp)
  have c4_7 := k4.cell 7 (by simp)
  simp only [List.getElem_cons_zero, List.getElem_cons_succ] at c4_0 c4_1 c4_2 c4_3 c4_4 c4_5 c4_6 c4_7
  clear c3_0 c3_1 c3_2 c3_3 c3_4 c3_5 c3_6 c3_7
  have k5 := k4.alloc (.cells #[.int .i64 0, .int .i64 400, .int .i64 413, .int .i64 431] 3)
  have c5_7 := k5.cell 7 (by simp)
  simp only [List.getElem_cons_zero, List.getElem_cons_succ] at c5_7
  go_wp2_with fail
  refine (contains0_any w4.heap.size _ ((CBlk.new 3 w4 [.int .i64 0, .int .i64 400, .int .i64 413, .int .i64 431]).cell 0 (by simp))).mono ?_
  rintro e w5 ⟨rfl, hb5⟩
  go_wp2_with fail
  go_ret
  exact ⟨rfl, (hB4.alloc hB4.size _).trans (hb5.mono (Nat.le_trans hB4.size (by simp)))⟩
set_option maxHeartbeats 4000000 in
theorem hasItsOwn_new (w : World) :
    Calls Tryz.prog 51 #[.agg #[.int .i64 0, .int .i64 0, .int .i64 0, .int .i64 0, .string ⟨#[]⟩, .string ⟨#[]⟩, .int .i64 0, .int .i64 0]] w fun e w' => e = .returned (.bool true) ∧ Below w.heap.size w w' := by
  have k0 := CBlk.new 34 w [.int .i64 0, .int .i64 0, .int .i64 0, .int .i64 0, .string ⟨#[]⟩, .string ⟨#[]⟩, .int .i64 0, .int .i64 0]
  have hB0 := (Below.refl w.heap.size w).alloc (Nat.le_refl _) (.cells #[.int .i64 0, .int .i64 0, .int .i64 0, .int .i64 0, .string ⟨#[]⟩, .string ⟨#[]⟩, .int .i64 0, .int .i64 0] 34)
  have k0' : CBlk 34 (w.alloc (.cells #[.int .i64 0, .int .i64 0, .int .i64 0, .int .i64 0, .string ⟨#[]⟩, .string ⟨#[]⟩, .int .i64 0, .int .i64 0] 34)) w.heap.size [.int .i64 0, .int .i64 0, .int .i64 0, .int .i64 0, .string ⟨#[]⟩, .string ⟨#[]⟩, .int .i64 0, .int .i64 0] := k0
  go_enter Tryz.func51, Tryz.ntmps51
  go_wp2_with fail
  go_ret
  exact ⟨rfl, hB0⟩
set_option maxHeartbeats 4000000 in
theorem hasOnlyItsOwn_new (w : World) :
    Calls Tryz.prog 50 #[.agg #[.int .i64 0, .int .i64 0, .int .i64 0, .int .i64 0, .string ⟨#[]⟩, .string ⟨#[]⟩, .int .i64 0, .int .i64 0]] w fun e w' => e = .returned (.bool true) ∧ Below w.heap.size w w' := by
  have he := fun W => eq_new W
  have k0 := CBlk.new 34 w [.int .i64 0, .int .i64 0, .int .i64 0, .int .i64 0, .string ⟨#[]⟩, .string ⟨#[]⟩, .int .i64 0, .int .i64 0]
  have hB0 := (Below.refl w.heap.size w).alloc (Nat.le_refl _) (.cells #[.int .i64 0, .int .i64 0, .int .i64 0, .int .i64 0, .string ⟨#[]⟩, .string ⟨#[]⟩, .int .i64 0, .int .i64 0] 34)
  have k0' : CBlk 34 (w.alloc (.cells #[.int .i64 0, .int .i64 0, .int .i64 0, .int .i64 0, .string ⟨#[]⟩, .string ⟨#[]⟩, .int .i64 0, .int .i64 0] 34)) w.heap.size [.int .i64 0, .int .i64 0, .int .i64 0, .int .i64 0, .string ⟨#[]⟩, .string ⟨#[]⟩, .int .i64 0, .int .i64 0] := k0
  go_enter Tryz.func50, Tryz.ntmps50
  go_wp2_with fail
  go_region
  all_goals
    go_wp2_with fail
    go_ret
    exact ⟨rfl, by go_grown⟩
set_option maxHeartbeats 4000000 in
theorem isFormed_new (w : World) :
    Calls Tryz.prog 35 #[.agg #[.int .i64 0, .int .i64 0, .int .i64 0, .int .i64 0, .string ⟨#[]⟩, .string ⟨#[]⟩, .int .i64 0, .int .i64 0]] w fun e w' => e = .returned (.bool true) ∧ Below w.heap.size w w' := by
  have k0 := CBlk.new 34 w [.int .i64 0, .int .i64 0, .int .i64 0, .int .i64 0, .string ⟨#[]⟩, .string ⟨#[]⟩, .int .i64 0, .int .i64 0]
  have hB0 := (Below.refl w.heap.size w).alloc (Nat.le_refl _) (.cells #[.int .i64 0, .int .i64 0, .int .i64 0, .int .i64 0, .string ⟨#[]⟩, .string ⟨#[]⟩, .int .i64 0, .int .i64 0] 34)
  have k0' : CBlk 34 (w.alloc (.cells #[.int .i64 0, .int .i64 0, .int .i64 0, .int .i64 0, .string ⟨#[]⟩, .string ⟨#[]⟩, .int .i64 0, .int .i64 0] 34)) w.heap.size [.int .i64 0, .int .i64 0, .int .i64 0, .int .i64 0, .string ⟨#[]⟩, .string ⟨#[]⟩, .int .i64 0, .int .i64 0] := k0
  go_enter Tryz.func35, Tryz.ntmps35
  go_wp2_with fail
  refine (hasOnlyItsOwn_new _).mono ?_
  rintro e w1 ⟨rfl, hb1⟩
  have k1 := k0'.below hb1 k0'.lt
  have hB1 := hB0.trans (hb1.mono hB0.size)
  have c1_0 := k1.cell 0 (by simp)
  have c1_1 := k1.cell 1 (by simp)
  have c1_2 := k1.cell 2 (by simp)
  have c1_3 := k1.cell 3 (by simp)
  have c1_4 := k1.cell 4 (by simp)
  have c1_5 := k1.cell 5 (by simp)
  have c1_6 := k1.cell 6 (by simp)
  have c1_7 := k1.cell 7 (by simp)
  simp only [List.getElem_cons_zero, List.getElem_cons_succ] at c1_0 c1_1 c1_2 c1_3 c1_4 c1_5 c1_6 c1_7
  go_wp2_with fail
  refine (hasItsOwn_new _).mono ?_
  rintro e w2 ⟨rfl, hb2⟩
  have k2 := k1.below hb2 k1.lt
  have hB2 := hB1.trans (hb2.mono hB1.size)
  have c2_0 := k2.cell 0 (by simp)
  have c2_1 := k2.cell 1 (by simp)
  have c2_2 := k2.cell 2 (by simp)
  have c2_3 := k2.cell 3 (by simp)
  have c2_4 := k2.cell 4 (by simp)
  have c2_5 := k2.cell 5 (by simp)
  have c2_6 := k2.cell 6 (by simp)
  have c2_7 := k2.cell 7 (by simp)
  simp only [List.getElem_cons_zero, List.getElem_cons_succ] at c2_0 c2_1 c2_2 c2_3 c2_4 c2_5 c2_6 c2_7
  clear c1_0 c1_1 c1_2 c1_3 c1_4 c1_5 c1_6 c1_7
  go_wp2_with fail
  refine (sizeFits_any 0 (.inl rfl) _).mono ?_
  rintro e w3 ⟨rfl, hb3⟩
  have k3 := k2.below hb3 k2.lt
  have hB3 := hB2.trans (hb3.mono hB2.size)
  have c3_0 := k3.cell 0 (by simp)
  have c3_1 := k3.cell 1 (by simp)
  have c3_2 := k3.cell 2 (by simp)
  have c3_3 := k3.cell 3 (by simp)
  have c3_4 := k3.cell 4 (by simp)
  have c3_5 := k3.cell 5 (by simp)
  have c3_6 := k3.cell 6 (by simp)
  have c3_7 := k3.cell 7 (by simp)
  simp only [List.getElem_cons_zero, List.getElem_cons_succ] at c3_0 c3_1 c3_2 c3_3 c3_4 c3_5 c3_6 c3_7
  clear c2_0 c2_1 c2_2 c2_3 c2_4 c2_5 c2_6 c2_7
  go_wp2_with fail
  refine (containsAny_any _).mono ?_
  rintro e w4 ⟨rfl, hb4⟩
  have k4 := k3.below hb4 k3.lt
  have hB4 := hB3.trans (hb4.mono hB3.size)
  have c4_0 := k4.cell 0 (by simp)
  have c4_1 := k4.cell 1 (by simp)
  have c4_2 := k4.cell 2 (by simp)
  have c4_3 := k4.cell 3 (by simp)
  have c4_4 := k4.cell 4 (by simp)
  have c4_5 := k4.cell 5 (by simp)
  have c4_6 := k4.cell 6 (by simp)
  have c4_7 := k4.cell 7 (by simp)
  simp only [List.getElem_cons_zero, List.getElem_cons_succ] at c4_0 c4_1 c4_2 c4_3 c4_4 c4_5 c4_6 c4_7
  clear c3_0 c3_1 c3_2 c3_3 c3_4 c3_5 c3_6 c3_7
  go_wp2_with fail
  go_ret
  exact ⟨rfl, hB4⟩
set_option maxHeartbeats 4000000 in
theorem check_new (w : World) :
    Calls Tryz.prog 24 #[.agg #[.int .i64 0, .int .i64 0, .int .i64 0, .int .i64 0, .string ⟨#[]⟩, .string ⟨#[]⟩, .int .i64 0, .int .i64 0]] w fun e w' => e = .returned (.int .i64 0) ∧ Below w.heap.size w w' := by
  have k0 := CBlk.new 34 w [.int .i64 0, .int .i64 0, .int .i64 0, .int .i64 0, .string ⟨#[]⟩, .string ⟨#[]⟩, .int .i64 0, .int .i64 0]
  have hB0 := (Below.refl w.heap.size w).alloc (Nat.le_refl _) (.cells #[.int .i64 0, .int .i64 0, .int .i64 0, .int .i64 0, .string ⟨#[]⟩, .string ⟨#[]⟩, .int .i64 0, .int .i64 0] 34)
  have k0' : CBlk 34 (w.alloc (.cells #[.int .i64 0, .int .i64 0, .int .i64 0, .int .i64 0, .string ⟨#[]⟩, .string ⟨#[]⟩, .int .i64 0, .int .i64 0] 34)) w.heap.size [.int .i64 0, .int .i64 0, .int .i64 0, .int .i64 0, .string ⟨#[]⟩, .string ⟨#[]⟩, .int .i64 0, .int .i64 0] := k0
  go_enter Tryz.func24, Tryz.ntmps24
  go_wp2_with fail
  refine (numbersFit_new _).mono ?_
  rintro e w1 ⟨rfl, hb1⟩
  have k1 := k0'.below hb1 k0'.lt
  have hB1 := hB0.trans (hb1.mono hB0.size)
  have c1_0 := k1.cell 0 (by simp)
  have c1_1 := k1.cell 1 (by simp)
  have c1_2 := k1.cell 2 (by simp)
  have c1_3 := k1.cell 3 (by simp)
  have c1_4 := k1.cell 4 (by simp)
  have c1_5 := k1.cell 5 (by simp)
  have c1_6 := k1.cell 6 (by simp)
  have c1_7 := k1.cell 7 (by simp)
  simp only [List.getElem_cons_zero, List.getElem_cons_succ] at c1_0 c1_1 c1_2 c1_3 c1_4 c1_5 c1_6 c1_7
  go_wp2_with fail
  refine (isFormed_new _).mono ?_
  rintro e w2 ⟨rfl, hb2⟩
  have k2 := k1.below hb2 k1.lt
  have hB2 := hB1.trans (hb2.mono hB1.size)
  have c2_0 := k2.cell 0 (by simp)
  have c2_1 := k2.cell 1 (by simp)
  have c2_2 := k2.cell 2 (by simp)
  have c2_3 := k2.cell 3 (by simp)
  have c2_4 := k2.cell 4 (by simp)
  have c2_5 := k2.cell 5 (by simp)
  have c2_6 := k2.cell 6 (by simp)
  have c2_7 := k2.cell 7 (by simp)
  simp only [List.getElem_cons_zero, List.getElem_cons_succ] at c2_0 c2_1 c2_2 c2_3 c2_4 c2_5 c2_6 c2_7
  clear c1_0 c1_1 c1_2 c1_3 c1_4 c1_5 c1_6 c1_7
  go_wp2_with fail
  go_ret
  exact ⟨rfl, hB2⟩
/-- A decoder. -/
def midV : Value := .agg #[.int .i64 2, .int .i64 0, .int .i64 0, .int .i64 3, .string ⟨#[97, 98]⟩, .string ⟨#[]⟩, .int .i64 0, .int .i64 0]
theorem eq_mid (w : World) : (Op.equalIn 10000 34 (.agg #[.int .i64 2, .int .i64 0, .int .i64 0, .int .i64 3, .string ⟨#[97, 98]⟩, .string ⟨#[]⟩, .int .i64 0, .int .i64 0]) (.agg #[.int .i64 2, .int .i64 0, .int .i64 0, .int .i64 3, .string ⟨#[97, 98]⟩, .string ⟨#[]⟩, .int .i64 0, .int .i64 0])).run Tryz.prog w = .ok true w := by kernel_rfl
set_option maxHeartbeats 4000000 in
theorem numbersFit_mid (w : World) :
    Calls Tryz.prog 34 #[.agg #[.int .i64 2, .int .i64 0, .int .i64 0, .int .i64 3, .string ⟨#[97, 98]⟩, .string ⟨#[]⟩, .int .i64 0, .int .i64 0]] w fun e w' => e = .returned (.bool true) ∧ Below w.heap.size w w' := by
  have k0 := CBlk.new 34 w [.int .i64 2, .int .i64 0, .int .i64 0, .int .i64 3, .string ⟨#[97, 98]⟩, .string ⟨#[]⟩, .int .i64 0, .int .i64 0]
  have hB0 := (Below.refl w.heap.size w).alloc (Nat.le_refl _) (.cells #[.int .i64 2, .int .i64 0, .int .i64 0, .int .i64 3, .string ⟨#[97, 98]⟩, .string ⟨#[]⟩, .int .i64 0, .int .i64 0] 34)
  have k0' : CBlk 34 (w.alloc (.cells #[.int .i64 2, .int .i64 0, .int .i64 0, .int .i64 3, .string ⟨#[97, 98]⟩, .string ⟨#[]⟩, .int .i64 0, .int .i64 0] 34)) w.heap.size [.int .i64 2, .int .i64 0, .int .i64 0, .int .i64 3, .string ⟨#[97, 98]⟩, .string ⟨#[]⟩, .int .i64 0, .int .i64 0] := k0
  go_enter Tryz.func34, Tryz.ntmps34
  go_wp2_with fail
  refine (sizeFits_any 8 (.inr rfl) _).mono ?_
  rintro e w1 ⟨rfl, hb1⟩
  have k1 := k0'.below hb1 k0'.lt
  have hB1 := hB0.trans (hb1.mono hB0.size)
  have c1_0 := k1.cell 0 (by simp)
  have c1_1 := k1.cell 1 (by simp)
  have c1_2 := k1.cell 2 (by simp)
  have c1_3 := k1.cell 3 (by simp)
  have c1_4 := k1.cell 4 (by simp)
  have c1_5 := k1.cell 5 (by simp)
  have c1_6 := k1.cell 6 (by simp)
  have c1_7 := k1.cell 7 (by simp)
  simp only [List.getElem_cons_zero, List.getElem_cons_succ] at c1_0 c1_1 c1_2 c1_3 c1_4 c1_5 c1_6 c1_7
  go_wp2_with fail
  refine (isWithin_any 0 8 (by omega) _).mono ?_
  rintro e w2 ⟨rfl, hb2⟩
  have k2 := k1.below hb2 k1.lt
  have hB2 := hB1.trans (hb2.mono hB1.size)
  have c2_0 := k2.cell 0 (by simp)
  have c2_1 := k2.cell 1 (by simp)
  have c2_2 := k2.cell 2 (by simp)
  have c2_3 := k2.cell 3 (by simp)
  have c2_4 := k2.cell 4 (by simp)
  have c2_5 := k2.cell 5 (by simp)
  have c2_6 := k2.cell 6 (by simp)
  have c2_7 := k2.cell 7 (by simp)
  simp only [List.getElem_cons_zero, List.getElem_cons_succ] at c2_0 c2_1 c2_2 c2_3 c2_4 c2_5 c2_6 c2_7
  clear c1_0 c1_1 c1_2 c1_3 c1_4 c1_5 c1_6 c1_7
  go_wp2_with fail
  refine (isWithin_any 3 2048 (by omega) _).mono ?_
  rintro e w3 ⟨rfl, hb3⟩
  have k3 := k2.below hb3 k2.lt
  have hB3 := hB2.trans (hb3.mono hB2.size)
  have c3_0 := k3.cell 0 (by simp)
  have c3_1 := k3.cell 1 (by simp)
  have c3_2 := k3.cell 2 (by simp)
  have c3_3 := k3.cell 3 (by simp)
  have c3_4 := k3.cell 4 (by simp)
  have c3_5 := k3.cell 5 (by simp)
  have c3_6 := k3.cell 6 (by simp)
  have c3_7 := k3.cell 7 (by simp)
  simp only [List.getElem_cons_zero, List.getElem_cons_succ] at c3_0 c3_1 c3_2 c3_3 c3_4 c3_5 c3_6 c3_7
  clear c2_0 c2_1 c2_2 c2_3 c2_4 c2_5 c2_6 c2_7
  go_wp2_with fail
  refine (isWithin_any 0 32 (by omega) _).mono ?_
  rintro e w4 ⟨rfl, hb4⟩
  have k4 := k3.below hb4 k3.lt
  have hB4 := hB3.trans (hb4.mono hB3.size)
  have c4_0 := k4.cell 0 (by simp)
  have c4_1 := k4.cell 1 (by simp)
  have c4_2 := k4.cell 2 (by simp)
  have c4_3 := k4.cell 3 (by simp)
  have c4_4 := k4.cell 4 (by simp)
  have c4_5 := k4.cell 5 (by simp)
  have c4_6 := k4.cell 6 (by simp)
  have c4_7 := k4.cell 7 (by simp)
  simp only [List.getElem_cons_zero, List.getElem_cons_succ] at c4_0 c4_1 c4_2 c4_3 c4_4 c4_5 c4_6 c4_7
  clear c3_0 c3_1 c3_2 c3_3 c3_4 c3_5 c3_6 c3_7
  have k5 := k4.alloc (.cells #[.int .i64 0, .int .i64 400, .int .i64 413, .int .i64 431] 3)
  have c5_7 := k5.cell 7 (by simp)
  simp only [List.getElem_cons_zero, List.getElem_cons_succ] at c5_7
  go_wp2_with fail
  refine (contains0_any w4.heap.size _ ((CBlk.new 3 w4 [.int .i64 0, .int .i64 400, .int .i64 413, .int .i64 431]).cell 0 (by simp))).mono ?_
  rintro e w5 ⟨rfl, hb5⟩
  go_wp2_with fail
  go_ret
  exact ⟨rfl, (hB4.alloc hB4.size _).trans (hb5.mono (Nat.le_trans hB4.size (by simp)))⟩
set_option maxHeartbeats 4000000 in
theorem hasItsOwn_mid (w : World) :
    Calls Tryz.prog 51 #[.agg #[.int .i64 2, .int .i64 0, .int .i64 0, .int .i64 3, .string ⟨#[97, 98]⟩, .string ⟨#[]⟩, .int .i64 0, .int .i64 0]] w fun e w' => e = .returned (.bool true) ∧ Below w.heap.size w w' := by
  have k0 := CBlk.new 34 w [.int .i64 2, .int .i64 0, .int .i64 0, .int .i64 3, .string ⟨#[97, 98]⟩, .string ⟨#[]⟩, .int .i64 0, .int .i64 0]
  have hB0 := (Below.refl w.heap.size w).alloc (Nat.le_refl _) (.cells #[.int .i64 2, .int .i64 0, .int .i64 0, .int .i64 3, .string ⟨#[97, 98]⟩, .string ⟨#[]⟩, .int .i64 0, .int .i64 0] 34)
  have k0' : CBlk 34 (w.alloc (.cells #[.int .i64 2, .int .i64 0, .int .i64 0, .int .i64 3, .string ⟨#[97, 98]⟩, .string ⟨#[]⟩, .int .i64 0, .int .i64 0] 34)) w.heap.size [.int .i64 2, .int .i64 0, .int .i64 0, .int .i64 3, .string ⟨#[97, 98]⟩, .string ⟨#[]⟩, .int .i64 0, .int .i64 0] := k0
  go_enter Tryz.func51, Tryz.ntmps51
  go_wp2_with fail
  go_ret
  exact ⟨rfl, hB0⟩
set_option maxHeartbeats 4000000 in
theorem hasOnlyItsOwn_mid (w : World) :
    Calls Tryz.prog 50 #[.agg #[.int .i64 2, .int .i64 0, .int .i64 0, .int .i64 3, .string ⟨#[97, 98]⟩, .string ⟨#[]⟩, .int .i64 0, .int .i64 0]] w fun e w' => e = .returned (.bool true) ∧ Below w.heap.size w w' := by
  have he := fun W => eq_mid W
  have k0 := CBlk.new 34 w [.int .i64 2, .int .i64 0, .int .i64 0, .int .i64 3, .string ⟨#[97, 98]⟩, .string ⟨#[]⟩, .int .i64 0, .int .i64 0]
  have hB0 := (Below.refl w.heap.size w).alloc (Nat.le_refl _) (.cells #[.int .i64 2, .int .i64 0, .int .i64 0, .int .i64 3, .string ⟨#[97, 98]⟩, .string ⟨#[]⟩, .int .i64 0, .int .i64 0] 34)
  have k0' : CBlk 34 (w.alloc (.cells #[.int .i64 2, .int .i64 0, .int .i64 0, .int .i64 3, .string ⟨#[97, 98]⟩, .string ⟨#[]⟩, .int .i64 0, .int .i64 0] 34)) w.heap.size [.int .i64 2, .int .i64 0, .int .i64 0, .int .i64 3, .string ⟨#[97, 98]⟩, .string ⟨#[]⟩, .int .i64 0, .int .i64 0] := k0
  go_enter Tryz.func50, Tryz.ntmps50
  go_wp2_with fail
  go_ret
  exact ⟨rfl, by go_grown⟩
set_option maxHeartbeats 4000000 in
theorem isFormed_mid (w : World) :
    Calls Tryz.prog 35 #[.agg #[.int .i64 2, .int .i64 0, .int .i64 0, .int .i64 3, .string ⟨#[97, 98]⟩, .string ⟨#[]⟩, .int .i64 0, .int .i64 0]] w fun e w' => e = .returned (.bool true) ∧ Below w.heap.size w w' := by
  have k0 := CBlk.new 34 w [.int .i64 2, .int .i64 0, .int .i64 0, .int .i64 3, .string ⟨#[97, 98]⟩, .string ⟨#[]⟩, .int .i64 0, .int .i64 0]
  have hB0 := (Below.refl w.heap.size w).alloc (Nat.le_refl _) (.cells #[.int .i64 2, .int .i64 0, .int .i64 0, .int .i64 3, .string ⟨#[97, 98]⟩, .string ⟨#[]⟩, .int .i64 0, .int .i64 0] 34)
  have k0' : CBlk 34 (w.alloc (.cells #[.int .i64 2, .int .i64 0, .int .i64 0, .int .i64 3, .string ⟨#[97, 98]⟩, .string ⟨#[]⟩, .int .i64 0, .int .i64 0] 34)) w.heap.size [.int .i64 2, .int .i64 0, .int .i64 0, .int .i64 3, .string ⟨#[97, 98]⟩, .string ⟨#[]⟩, .int .i64 0, .int .i64 0] := k0
  go_enter Tryz.func35, Tryz.ntmps35
  go_wp2_with fail
  refine (hasOnlyItsOwn_mid _).mono ?_
  rintro e w1 ⟨rfl, hb1⟩
  have k1 := k0'.below hb1 k0'.lt
  have hB1 := hB0.trans (hb1.mono hB0.size)
  have c1_0 := k1.cell 0 (by simp)
  have c1_1 := k1.cell 1 (by simp)
  have c1_2 := k1.cell 2 (by simp)
  have c1_3 := k1.cell 3 (by simp)
  have c1_4 := k1.cell 4 (by simp)
  have c1_5 := k1.cell 5 (by simp)
  have c1_6 := k1.cell 6 (by simp)
  have c1_7 := k1.cell 7 (by simp)
  simp only [List.getElem_cons_zero, List.getElem_cons_succ] at c1_0 c1_1 c1_2 c1_3 c1_4 c1_5 c1_6 c1_7
  go_wp2_with fail
  refine (hasItsOwn_mid _).mono ?_
  rintro e w2 ⟨rfl, hb2⟩
  have k2 := k1.below hb2 k1.lt
  have hB2 := hB1.trans (hb2.mono hB1.size)
  have c2_0 := k2.cell 0 (by simp)
  have c2_1 := k2.cell 1 (by simp)
  have c2_2 := k2.cell 2 (by simp)
  have c2_3 := k2.cell 3 (by simp)
  have c2_4 := k2.cell 4 (by simp)
  have c2_5 := k2.cell 5 (by simp)
  have c2_6 := k2.cell 6 (by simp)
  have c2_7 := k2.cell 7 (by simp)
  simp only [List.getElem_cons_zero, List.getElem_cons_succ] at c2_0 c2_1 c2_2 c2_3 c2_4 c2_5 c2_6 c2_7
  clear c1_0 c1_1 c1_2 c1_3 c1_4 c1_5 c1_6 c1_7
  go_wp2_with fail
  refine (sizeFits_any 0 (.inl rfl) _).mono ?_
  rintro e w3 ⟨rfl, hb3⟩
  have k3 := k2.below hb3 k2.lt
  have hB3 := hB2.trans (hb3.mono hB2.size)
  have c3_0 := k3.cell 0 (by simp)
  have c3_1 := k3.cell 1 (by simp)
  have c3_2 := k3.cell 2 (by simp)
  have c3_3 := k3.cell 3 (by simp)
  have c3_4 := k3.cell 4 (by simp)
  have c3_5 := k3.cell 5 (by simp)
  have c3_6 := k3.cell 6 (by simp)
  have c3_7 := k3.cell 7 (by simp)
  simp only [List.getElem_cons_zero, List.getElem_cons_succ] at c3_0 c3_1 c3_2 c3_3 c3_4 c3_5 c3_6 c3_7
  clear c2_0 c2_1 c2_2 c2_3 c2_4 c2_5 c2_6 c2_7
  go_wp2_with fail
  refine (containsAny_any _).mono ?_
  rintro e w4 ⟨rfl, hb4⟩
  have k4 := k3.below hb4 k3.lt
  have hB4 := hB3.trans (hb4.mono hB3.size)
  have c4_0 := k4.cell 0 (by simp)
  have c4_1 := k4.cell 1 (by simp)
  have c4_2 := k4.cell 2 (by simp)
  have c4_3 := k4.cell 3 (by simp)
  have c4_4 := k4.cell 4 (by simp)
  have c4_5 := k4.cell 5 (by simp)
  have c4_6 := k4.cell 6 (by simp)
  have c4_7 := k4.cell 7 (by simp)
  simp only [List.getElem_cons_zero, List.getElem_cons_succ] at c4_0 c4_1 c4_2 c4_3 c4_4 c4_5 c4_6 c4_7
  clear c3_0 c3_1 c3_2 c3_3 c3_4 c3_5 c3_6 c3_7
  go_wp2_with fail
  go_ret
  exact ⟨rfl, hB4⟩
set_option maxHeartbeats 4000000 in
theorem check_mid (w : World) :
    Calls Tryz.prog 24 #[.agg #[.int .i64 2, .int .i64 0, .int .i64 0, .int .i64 3, .string ⟨#[97, 98]⟩, .string ⟨#[]⟩, .int .i64 0, .int .i64 0]] w fun e w' => e = .returned (.int .i64 0) ∧ Below w.heap.size w w' := by
  have k0 := CBlk.new 34 w [.int .i64 2, .int .i64 0, .int .i64 0, .int .i64 3, .string ⟨#[97, 98]⟩, .string ⟨#[]⟩, .int .i64 0, .int .i64 0]
  have hB0 := (Below.refl w.heap.size w).alloc (Nat.le_refl _) (.cells #[.int .i64 2, .int .i64 0, .int .i64 0, .int .i64 3, .string ⟨#[97, 98]⟩, .string ⟨#[]⟩, .int .i64 0, .int .i64 0] 34)
  have k0' : CBlk 34 (w.alloc (.cells #[.int .i64 2, .int .i64 0, .int .i64 0, .int .i64 3, .string ⟨#[97, 98]⟩, .string ⟨#[]⟩, .int .i64 0, .int .i64 0] 34)) w.heap.size [.int .i64 2, .int .i64 0, .int .i64 0, .int .i64 3, .string ⟨#[97, 98]⟩, .string ⟨#[]⟩, .int .i64 0, .int .i64 0] := k0
  go_enter Tryz.func24, Tryz.ntmps24
  go_wp2_with fail
  refine (numbersFit_mid _).mono ?_
  rintro e w1 ⟨rfl, hb1⟩
  have k1 := k0'.below hb1 k0'.lt
  have hB1 := hB0.trans (hb1.mono hB0.size)
  have c1_0 := k1.cell 0 (by simp)
  have c1_1 := k1.cell 1 (by simp)
  have c1_2 := k1.cell 2 (by simp)
  have c1_3 := k1.cell 3 (by simp)
  have c1_4 := k1.cell 4 (by simp)
  have c1_5 := k1.cell 5 (by simp)
  have c1_6 := k1.cell 6 (by simp)
  have c1_7 := k1.cell 7 (by simp)
  simp only [List.getElem_cons_zero, List.getElem_cons_succ] at c1_0 c1_1 c1_2 c1_3 c1_4 c1_5 c1_6 c1_7
  go_wp2_with fail
  refine (isFormed_mid _).mono ?_
  rintro e w2 ⟨rfl, hb2⟩
  have k2 := k1.below hb2 k1.lt
  have hB2 := hB1.trans (hb2.mono hB1.size)
  have c2_0 := k2.cell 0 (by simp)
  have c2_1 := k2.cell 1 (by simp)
  have c2_2 := k2.cell 2 (by simp)
  have c2_3 := k2.cell 3 (by simp)
  have c2_4 := k2.cell 4 (by simp)
  have c2_5 := k2.cell 5 (by simp)
  have c2_6 := k2.cell 6 (by simp)
  have c2_7 := k2.cell 7 (by simp)
  simp only [List.getElem_cons_zero, List.getElem_cons_succ] at c2_0 c2_1 c2_2 c2_3 c2_4 c2_5 c2_6 c2_7
  clear c1_0 c1_1 c1_2 c1_3 c1_4 c1_5 c1_6 c1_7
  go_wp2_with fail
  go_ret
  exact ⟨rfl, hB2⟩
end Go.Proofs.YtbafmiejgpgamaaGreatDoor
