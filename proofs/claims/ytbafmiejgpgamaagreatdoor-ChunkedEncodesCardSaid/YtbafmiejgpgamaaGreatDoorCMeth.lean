/-
  The methods of a decoder that are named for states: what a byte makes of it.
-/
import Derived.Test.YtbafmiejgpgamaaGreatDoorCDec
import Derived.LoopN
import Derived.Laws.Bits64b
import Derived.Deep.RegionWith
import Derived.Laws.DeepStrings4
namespace Go.Proofs.YtbafmiejgpgamaaGreatDoor
open Go.RowKit
theorem or_digit (s g : Nat) (hs : s < 268435456) (hg : g < 16) : bits .or .i64 (wrap64 ((s : Int) * 16)) (g : Int) = ((16 * s + g : Nat) : Int) := by
  have e : wrap64 ((s : Int) * 16) = ((s * 16 : Nat) : Int) := by unfold wrap64; omega
  rw [e]
  have h1 : (BitVec.ofInt 64 ((s * 16 : Nat) : Int)).toNat = s * 16 := by
    rw [BitVec.ofInt_natCast, BitVec.toNat_ofNat]; exact Nat.mod_eq_of_lt (by omega)
  have h2 : (BitVec.ofInt 64 (g : Int)).toNat = g := by
    rw [BitVec.ofInt_natCast, BitVec.toNat_ofNat]; exact Nat.mod_eq_of_lt (by omega)
  show IntKind.i64.wrap ((BitVec.ofInt 64 ((s * 16 : Nat) : Int) ||| BitVec.ofInt 64 (g : Int)).toNat : Int) = _
  have h3 : s * 16 ||| g = s * 16 + g := by
    rw [Nat.mul_comm]; exact (Nat.two_pow_add_eq_or_of_lt (i := 4) (by omega) s).symm
  rw [BitVec.toNat_or, h1, h2, h3, IntKind.wrap_i64]
  omega
theorem size_lt {d : Dec} (h : d.Ok) (h8 : d.digits < 8) : d.size < 268435456 := by
  have h1 := h.size
  have h2 : 16 ^ d.digits ≤ 16 ^ 7 := Nat.pow_le_pow_right (by omega) (by omega)
  have h3 : 16 ^ 7 = 268435456 := by decide
  omega
theorem size_le {d : Dec} (h : d.Ok) : d.size < 4294967296 := by
  have h1 := h.size
  have h2 : 16 ^ d.digits ≤ 16 ^ 8 := Nat.pow_le_pow_right (by omega) h.digits
  have h3 : 16 ^ 8 = 4294967296 := by decide
  omega
set_option maxHeartbeats 2000000 in
theorem read_yes (W : World) (B base : Nat) (d : Dec) (v : Value) (h : DB W B base d v) (ok : d.Ok) (b : UInt8) (R c : Nat) (hR : W.cell? ⟨R, 0, none⟩ = some (.int .u8 (b.toNat : Int))) (hd : isD true b = true) (h8 : d.digits < 8) :
    Calls Tryz.prog 66 #[.pointer (some ⟨B, 0, none⟩), .slice (some ⟨R, 0, none⟩) 1 c] W fun e w' => e = .returned (.bool true) ∧ DB w' B base { d with size := 16 * d.size + digN true b, digits := d.digits + 1 } v ∧ W.grownBy w' (some B) := by
  obtain ⟨c0, c1, c2, c3, c4, c5, c6, c7, c8⟩ := h.cells
  obtain ⟨f0, f1, f2, f3, f4, f5, f6, f7, f8⟩ := h.frees
  have HY := Lib.hid (digitV_yes hd)
  have hlt := UInt8.toNat_lt b
  have n8 : ((d.digits : Int) == 8) = false := by rw [beq_eq_false_iff_ne]; omega
  have ho := or_digit d.size (digN true b) (size_lt ok h8) (by have := digN_lt true b; unfold baseN at this; simpa using this)
  have hg1 := grown_set (grown_set (World.grownBy.refl W (some B)) 1 (.int .i64 ((16 * d.size + digN true b : Nat) : Int))) 2 (.int .i64 ((d.digits + 1 : Nat) : Int))
  have hD := Lib.hid (h.put (e := { d with size := 16 * d.size + digN true b, digits := d.digits + 1 }) hg1 ((h.blk.set 1 (.int .i64 ((16 * d.size + digN true b : Nat) : Int))).set 2 (.int .i64 ((d.digits + 1 : Nat) : Int))) rfl)
  have HG := Lib.hid hg1
  have hw1 : wrap64 ((d.digits : Int) + 1) = ((d.digits + 1 : Nat) : Int) := by unfold wrap64; omega
  obtain ⟨M, hM⟩ : ∃ M, 16 * d.size + digN true b = M := ⟨_, rfl⟩
  rw [hM] at ho hD HG
  rw [hM]
  clear hM hd h8 hg1
  go_enter Tryz.func66, Tryz.ntmps66
  go_wp2_with fail
  refine wp_loop_rounds 2 ?_
  rw [rounds_succ]
  go_wp2_with fail
  refine (digit_eq b.toNat hlt true _).mono ?_
  rintro e w1 ⟨rfl, rfl⟩
  rw [HY.out]
  go_wp2_with fail
  rw [rounds_succ]
  go_wp2_with fail
  go_ret
  exact ⟨rfl, hD.out, HG.out⟩
set_option maxHeartbeats 2000000 in
theorem read_no (W : World) (B base : Nat) (d : Dec) (v : Value) (h : DB W B base d v) (b : UInt8) (R c : Nat) (hR : W.cell? ⟨R, 0, none⟩ = some (.int .u8 (b.toNat : Int))) (hd : isD true b = false ∨ d.digits = 8) :
    Calls Tryz.prog 66 #[.pointer (some ⟨B, 0, none⟩), .slice (some ⟨R, 0, none⟩) 1 c] W fun e w' => e = .returned (.bool false) ∧ W = w' := by
  obtain ⟨c0, c1, c2, c3, c4, c5, c6, c7, c8⟩ := h.cells
  have hlt := UInt8.toNat_lt b
  cases hb : isD true b
  · have HY := Lib.hid (digitV_no hb)
    clear hd hb
    go_enter Tryz.func66, Tryz.ntmps66
    go_wp2_with fail
    refine wp_loop_rounds 2 ?_
    rw [rounds_succ]
    go_wp2_with fail
    refine (digit_eq b.toNat hlt true _).mono ?_
    rintro e w1 ⟨rfl, rfl⟩
    rw [HY.out]
    go_wp2_with fail
    go_ret
    exact ⟨rfl, rfl⟩
  · have HY := Lib.hid (digitV_yes hb)
    have n8 : ((d.digits : Int) == 8) = true := by
      rcases hd with hd | hd
      · rw [hb] at hd; cases hd
      · rw [beq_iff_eq]; omega
    clear hd hb
    go_enter Tryz.func66, Tryz.ntmps66
    go_wp2_with fail
    refine wp_loop_rounds 2 ?_
    rw [rounds_succ]
    go_wp2_with fail
    refine (digit_eq b.toNat hlt true _).mono ?_
    rintro e w1 ⟨rfl, rfl⟩
    rw [HY.out]
    go_wp2_with fail
    go_ret
    exact ⟨rfl, rfl⟩
theorem DB.drew {W : World} {B base : Nat} {d : Dec} {v : Value} (h : DB W B base d v) : DB W.drew B base d v := ⟨h.blk, h.row, h.le⟩
theorem grown_drew {w w' : World} {r : Option Nat} (h : w.grownBy w' r) : w.grownBy w'.drew r := ⟨h.os, h.tape, h.output, h.size, h.block⟩
theorem drew_grown {W W' : World} {r : Option Nat} (h : W.drew.grownBy W' r) : W.grownBy W' r := ⟨h.os, h.tape, h.output, h.size, h.block⟩
theorem DB.alloc {W : World} {B base : Nat} {d : Dec} {v : Value} (h : DB W B base d v) (o : Obj) : DB (W.alloc o) B base d v := ⟨h.blk.alloc o, h.row.alloc o, h.le⟩
theorem isD13 {b : UInt8} (h : b.toNat = 13) : isD true b = false := by unfold isD valN; rw [h]; decide
set_option maxHeartbeats 2000000 in
theorem in0_any (W : World) (B base : Nat) (d : Dec) (v : Value) (h : DB W B base d v) (ok : d.Ok) (b : UInt8) :
    Calls Tryz.prog 54 #[.pointer (some ⟨B, 0, none⟩), .int .u8 (b.toNat : Int)] W fun e w' => e = .returned (.tuple #[]) ∧ DB w' B base (st0 d b) v ∧ W.grownBy w' (some B) := by
  obtain ⟨c0, c1, c2, c3, c4, c5, c6, c7, c8⟩ := h.cells
  obtain ⟨f0, f1, f2, f3, f4, f5, f6, f7, f8⟩ := h.frees
  have h1 := h.alloc (.cells #[.int .u8 (b.toNat : Int)] 5)
  have hR : (W.alloc (.cells #[.int .u8 (b.toNat : Int)] 5)).cell? ⟨W.heap.size, 0, none⟩ = some (.int .u8 (b.toNat : Int)) := (CBlk.new 5 W [.int .u8 (b.toNat : Int)]).cell 0 (by simp)
  have hgA := World.grownBy_alloc W (.cells #[.int .u8 (b.toNat : Int)] 5) (some B)
  by_cases hA : isD true b = true ∧ d.digits < 8
  · have h13 : ((b.toNat : Int) == 13) = false := by
      rw [beq_eq_false_iff_ne]; intro e
      have := isD13 (b := b) (by omega)
      rw [hA.1] at this; cases this
    have HS : Hid (st0 d b = { d with size := 16 * d.size + digN true b, digits := d.digits + 1 }) := Lib.hid (by unfold st0; rw [if_pos hA])
    have HR := Lib.hid fun c => read_yes _ B base d v h1 ok b W.heap.size c hR hA.1 hA.2
    clear hA
    go_enter Tryz.func54, Tryz.ntmps54
    go_wp2_with fail
    refine (HR.out _).mono ?_
    rintro e w1 ⟨rfl, hd, hg⟩
    go_wp2_with fail
    exact bodyPost_end (v := .tuple #[]) (by simp [Go.results, Tryz.results54, go_sem]) rfl ⟨rfl, by rw [HS.out]; exact hd, hgA.trans hg⟩
  · by_cases hC : b.toNat = 13 ∧ 0 < d.digits
    · have h13 : ((b.toNat : Int) == 13) = true := by rw [beq_iff_eq]; omega
      have hdg : decide ((0 : Int) < (d.digits : Int)) = true := decide_eq_true (by omega)
      have hdgN : decide (0 < d.digits) = true := decide_eq_true (by omega)
      have HS : Hid (st0 d b = { d with st := 1 }) := Lib.hid (by unfold st0; rw [if_neg hA, if_pos hC])
      have hh := h.state 1
      clear hA hC
      go_enter Tryz.func54, Tryz.ntmps54
      go_wp2_with fail
      exact bodyPost_end (v := .tuple #[]) (by simp [Go.results, Tryz.results54, go_sem]) rfl ⟨rfl, by rw [HS.out]; exact hh.1, hh.2⟩
    · have HS : Hid (st0 d b = d.bad 400) := Lib.hid (by unfold st0; rw [if_neg hA, if_neg hC])
      have hno : isD true b = false ∨ d.digits = 8 := by
        cases hb : isD true b
        · exact .inl rfl
        · exact .inr (by have := ok.digits; have : ¬ d.digits < 8 := fun e => hA ⟨hb, e⟩; omega)
      have HR := Lib.hid fun c => read_no _ B base d v h1 b W.heap.size c hR hno
      by_cases hb : b.toNat = 13
      · have h13 : ((b.toNat : Int) == 13) = true := by rw [beq_iff_eq]; omega
        have hdg : decide ((0 : Int) < (d.digits : Int)) = false := decide_eq_false (by omega)
        have hdgN : decide (0 < d.digits) = false := decide_eq_false (by omega)
        clear hA hC hb hno
        go_enter Tryz.func54, Tryz.ntmps54
        go_wp2_with fail
        refine (HR.out _).mono ?_
        rintro e w1 ⟨rfl, rfl⟩
        go_wp2_with fail
        refine (fail_any _ B base d v h1 400).mono ?_
        rintro e w1 ⟨rfl, hd, hg⟩
        go_wp2_with fail
        exact bodyPost_end (v := .tuple #[]) (by simp [Go.results, Tryz.results54, go_sem]) rfl ⟨rfl, by rw [HS.out]; exact hd, hgA.trans hg⟩
      · have h13 : ((b.toNat : Int) == 13) = false := by rw [beq_eq_false_iff_ne]; omega
        clear hA hC hb hno
        go_enter Tryz.func54, Tryz.ntmps54
        go_wp2_with fail
        refine (HR.out _).mono ?_
        rintro e w1 ⟨rfl, rfl⟩
        go_wp2_with fail
        refine (fail_any _ B base d v h1 400).mono ?_
        rintro e w1 ⟨rfl, hd, hg⟩
        go_wp2_with fail
        exact bodyPost_end (v := .tuple #[]) (by simp [Go.results, Tryz.results54, go_sem]) rfl ⟨rfl, by rw [HS.out]; exact hd, hgA.trans hg⟩
set_option maxHeartbeats 2000000 in
theorem in1_any (W : World) (B base : Nat) (d : Dec) (v : Value) (h : DB W B base d v) (ok : d.Ok) (b : UInt8) :
    Calls Tryz.prog 55 #[.pointer (some ⟨B, 0, none⟩), .int .u8 (b.toNat : Int)] W fun e w' => e = .returned (.tuple #[]) ∧ DB w' B base (st1 d b) v ∧ W.grownBy w' (some B) := by
  obtain ⟨c0, c1, c2, c3, c4, c5, c6, c7, c8⟩ := h.cells
  obtain ⟨f0, f1, f2, f3, f4, f5, f6, f7, f8⟩ := h.frees
  have hsz := size_le ok
  have hbl := ok.body
  by_cases h10 : b.toNat = 10
  · have e10 : ((b.toNat : Int) != 10) = false := by rw [bne_eq_false_iff_eq]; omega
    by_cases h0 : d.size = 0
    · have e0 : ((d.size : Int) == 0) = true := by rw [beq_iff_eq]; omega
      have HS : Hid (st1 d b = ⟨5, 0, 0, 0, d.body, [], 0, 0⟩) := Lib.hid (by unfold st1; rw [if_pos h10, if_pos h0])
      have hh := h.store8 ⟨5, 0, 0, 0, d.body, [], 0, 0⟩ rfl
      clear h10 h0
      go_enter Tryz.func55, Tryz.ntmps55
      go_wp2_with fail
      exact bodyPost_end (v := .tuple #[]) (by simp [Go.results, Tryz.results55, go_sem]) rfl ⟨rfl, by rw [HS.out]; exact hh.1, hh.2⟩
    · have e0 : ((d.size : Int) == 0) = false := by rw [beq_eq_false_iff_ne]; omega
      obtain ⟨p, c, rfl⟩ := h.row.form
      by_cases hm : 2048 < d.body.length + d.size
      · have em : decide ((2048 : Int) < (d.body.length : Int) + (d.size : Int)) = true := decide_eq_true (by omega)
        have HS : Hid (st1 d b = d.bad 413) := Lib.hid (by unfold st1; rw [if_pos h10, if_neg h0, if_pos hm])
        clear h10 h0 hm
        go_enter Tryz.func55, Tryz.ntmps55
        go_wp2_with fail
        go_region
        all_goals
          go_wp2_with fail
          refine (fail_any _ B base d _ h.drew 413).mono ?_
          rintro e w1 ⟨rfl, hd, hg⟩
          go_wp2_with fail
          exact bodyPost_end (v := .tuple #[]) (by simp [Go.results, Tryz.results55, go_sem]) rfl ⟨rfl, by rw [HS.out]; exact hd, drew_grown hg⟩
      · have em : decide ((2048 : Int) < (d.body.length : Int) + (d.size : Int)) = false := decide_eq_false (by omega)
        have HS : Hid (st1 d b = ⟨2, 0, 0, d.size, d.body, [], 0, 0⟩) := Lib.hid (by unfold st1; rw [if_pos h10, if_neg h0, if_neg hm])
        have hh := h.store8 ⟨2, 0, 0, d.size, d.body, [], 0, 0⟩ rfl
        clear h10 h0 hm
        go_enter Tryz.func55, Tryz.ntmps55
        go_wp2_with fail
        go_region
        all_goals
          go_wp2_with fail
          exact bodyPost_end (v := .tuple #[]) (by simp [Go.results, Tryz.results55, go_sem]) rfl ⟨rfl, by rw [HS.out]; exact hh.1.drew, grown_drew hh.2⟩
  · have e10 : ((b.toNat : Int) != 10) = true := by rw [bne_iff_ne]; omega
    have HS : Hid (st1 d b = d.bad 400) := Lib.hid (by unfold st1; rw [if_neg h10])
    clear h10
    go_enter Tryz.func55, Tryz.ntmps55
    go_wp2_with fail
    refine (fail_any _ B base d v h 400).mono ?_
    rintro e w1 ⟨rfl, hd, hg⟩
    go_wp2_with fail
    exact bodyPost_end (v := .tuple #[]) (by simp [Go.results, Tryz.results55, go_sem]) rfl ⟨rfl, by rw [HS.out]; exact hd, hg⟩
theorem in3_any (W : World) (B base : Nat) (d : Dec) (v : Value) (h : DB W B base d v) (b : UInt8) :
    Calls Tryz.prog 57 #[.pointer (some ⟨B, 0, none⟩), .int .u8 (b.toNat : Int)] W fun e w' => e = .returned (.tuple #[]) ∧ DB w' B base (st3 d b) v ∧ W.grownBy w' (some B) := by
  go_enter Tryz.func57, Tryz.ntmps57
  go_wp2_with fail
  refine (expect_any _ B base d v h 13 b.toNat 4).mono ?_
  rintro e w1 ⟨rfl, hd, hg⟩
  go_wp2_with fail
  exact bodyPost_end (v := .tuple #[]) (by simp [Go.results, Tryz.results57, go_sem]) rfl ⟨rfl, hd, hg⟩
theorem in4_any (W : World) (B base : Nat) (d : Dec) (v : Value) (h : DB W B base d v) (b : UInt8) :
    Calls Tryz.prog 58 #[.pointer (some ⟨B, 0, none⟩), .int .u8 (b.toNat : Int)] W fun e w' => e = .returned (.tuple #[]) ∧ DB w' B base (st4 d b) v ∧ W.grownBy w' (some B) := by
  go_enter Tryz.func58, Tryz.ntmps58
  go_wp2_with fail
  refine (expect_any _ B base d v h 10 b.toNat 0).mono ?_
  rintro e w1 ⟨rfl, hd, hg⟩
  go_wp2_with fail
  exact bodyPost_end (v := .tuple #[]) (by simp [Go.results, Tryz.results58, go_sem]) rfl ⟨rfl, hd, hg⟩
end Go.Proofs.YtbafmiejgpgamaaGreatDoor
