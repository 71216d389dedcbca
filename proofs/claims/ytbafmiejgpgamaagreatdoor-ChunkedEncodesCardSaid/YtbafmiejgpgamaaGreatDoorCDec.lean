/-
  A decoder, purely: what a byte makes of it. Its cells in memory, and the methods that only store into them: fail, expect.
-/
import Derived.Test.YtbafmiejgpgamaaGreatDoorCOwn
namespace Go.Proofs.YtbafmiejgpgamaaGreatDoor
open Go.RowKit
/-- A decoder. -/
structure Dec where
  st : Nat
  size : Nat
  digits : Nat
  left : Nat
  body : List UInt8
  line : List UInt8
  lines : Nat
  status : Nat
def Dec.bad (d : Dec) (s : Nat) : Dec := ⟨8, 0, 0, 0, d.body, [], 0, s⟩
/-- A byte where a size is expected. -/
def st0 (d : Dec) (b : UInt8) : Dec :=
  if isD true b = true ∧ d.digits < 8 then { d with size := 16 * d.size + digN true b, digits := d.digits + 1 }
  else if b.toNat = 13 ∧ 0 < d.digits then { d with st := 1 } else d.bad 400
/-- A byte behind a size. -/
def st1 (d : Dec) (b : UInt8) : Dec :=
  if b.toNat = 10 then (if d.size = 0 then ⟨5, 0, 0, 0, d.body, [], 0, 0⟩ else if 2048 < d.body.length + d.size then d.bad 413 else ⟨2, 0, 0, d.size, d.body, [], 0, 0⟩) else d.bad 400
def st2 (d : Dec) (b : UInt8) : Dec := { d with st := if d.left = 1 then 3 else 2, left := d.left - 1, body := d.body ++ [b] }
def st3 (d : Dec) (b : UInt8) : Dec := if b.toNat = 13 then { d with st := 4 } else d.bad 400
def st4 (d : Dec) (b : UInt8) : Dec := if b.toNat = 10 then { d with st := 0 } else d.bad 400
/-- A byte of a trailer line. -/
def st5 (d : Dec) (b : UInt8) : Dec :=
  if b.toNat = 13 then { d with st := 6 } else if b.toNat = 10 then d.bad 400
  else if (d.line = [] ∧ d.lines = 32) ∨ d.line.length = 512 then d.bad 431 else { d with line := d.line ++ [b] }
def st6 (d : Dec) (b : UInt8) : Dec :=
  if b.toNat = 10 then (if d.line = [] then { d with st := 7 } else if trlB d.line = true then ⟨5, 0, 0, 0, d.body, [], d.lines + 1, 0⟩ else d.bad 400) else d.bad 400
/-- What a byte makes of a decoder that is not over. -/
def stepD (d : Dec) (b : UInt8) : Dec := match d.st with
  | 0 => st0 d b
  | 1 => st1 d b
  | 2 => st2 d b
  | 3 => st3 d b
  | 4 => st4 d b
  | 5 => st5 d b
  | _ => st6 d b
/-- What holds of a decoder at work. -/
structure Dec.Ok (d : Dec) : Prop where
  st : d.st ≤ 8
  size : d.size < 16 ^ d.digits
  digits : d.digits ≤ 8
  left : d.st = 2 → 1 ≤ d.left
  body : d.body.length + d.left ≤ 2048
  line : d.line.length ≤ 512
  lines : d.lines ≤ 32
  more : d.line ≠ [] → d.lines < 32
theorem bad_ok {d : Dec} (h : d.Ok) (s : Nat) : (d.bad s).Ok :=
  ⟨by unfold Dec.bad; simp, by unfold Dec.bad; simp, by unfold Dec.bad; simp, by unfold Dec.bad; simp, by have := h.body; unfold Dec.bad; simp; omega, by unfold Dec.bad; simp, by unfold Dec.bad; simp, by unfold Dec.bad; simp⟩
theorem st0_ok {d : Dec} (h : d.Ok) (hs : d.st = 0) (b : UInt8) : (st0 d b).Ok := by
  unfold st0
  split
  · rename_i hc
    refine ⟨by simp; have := h.st; omega, ?_, by simp; omega, by simp [hs], h.body, h.line, h.lines, h.more⟩
    have h1 := h.size
    have h2 := digN_lt true b
    unfold baseN at h2
    simp at h2 ⊢
    rw [Nat.pow_succ]
    omega
  · split
    · exact ⟨by simp, h.size, h.digits, by simp, h.body, h.line, h.lines, h.more⟩
    · exact bad_ok h _
theorem st1_ok {d : Dec} (h : d.Ok) (b : UInt8) : (st1 d b).Ok := by
  unfold st1
  split
  · split
    · exact ⟨by simp, by simp, by simp, by simp, by have := h.body; simp; omega, by simp, by simp, by simp⟩
    · split
      · exact bad_ok h _
      · exact ⟨by simp, by simp, by simp, by simp; omega, by simp; omega, by simp, by simp, by simp⟩
  · exact bad_ok h _
theorem st2_ok {d : Dec} (h : d.Ok) (hs : d.st = 2) (b : UInt8) : (st2 d b).Ok := by
  have h1 := h.left hs
  have h2 := h.body
  unfold st2
  refine ⟨by simp; split <;> omega, h.size, h.digits, ?_, by simp; omega, h.line, h.lines, h.more⟩
  simp
  omega
theorem st3_ok {d : Dec} (h : d.Ok) (b : UInt8) : (st3 d b).Ok := by
  unfold st3
  split
  · exact ⟨by simp, h.size, h.digits, by simp, h.body, h.line, h.lines, h.more⟩
  · exact bad_ok h _
theorem st4_ok {d : Dec} (h : d.Ok) (b : UInt8) : (st4 d b).Ok := by
  unfold st4
  split
  · exact ⟨by simp, h.size, h.digits, by simp, h.body, h.line, h.lines, h.more⟩
  · exact bad_ok h _
theorem st5_ok {d : Dec} (h : d.Ok) (b : UInt8) : (st5 d b).Ok := by
  unfold st5
  split
  · exact ⟨by simp, h.size, h.digits, by simp, h.body, h.line, h.lines, h.more⟩
  · split
    · exact bad_ok h _
    · split
      · exact bad_ok h _
      · rename_i hc
        have h1 := h.line
        have h2 := h.lines
        have h3 := h.more
        refine ⟨h.st, h.size, h.digits, h.left, h.body, ?_, h.lines, fun _ => ?_⟩
        · simp
          have : ¬ d.line.length = 512 := fun e => hc (.inr e)
          omega
        · show d.lines < 32
          by_cases hl : d.line = []
          · have : ¬ d.lines = 32 := fun e => hc (.inl ⟨hl, e⟩)
            omega
          · exact h3 hl
theorem st6_ok {d : Dec} (h : d.Ok) (b : UInt8) : (st6 d b).Ok := by
  unfold st6
  split
  · split
    · exact ⟨by simp, h.size, h.digits, by simp, h.body, h.line, h.lines, h.more⟩
    · split
      · rename_i hl _
        exact ⟨by simp, by simp, by simp, by simp, by have := h.body; simp; omega, by simp, by have := h.more hl; simp; omega, by simp⟩
      · exact bad_ok h _
  · exact bad_ok h _
theorem step_ok {d : Dec} (h : d.Ok) (hs : d.st ≤ 6) (b : UInt8) : (stepD d b).Ok := by
  unfold stepD
  match hd : d.st, hs with
  | 0, _ => exact st0_ok h hd b
  | 1, _ => exact st1_ok h b
  | 2, _ => exact st2_ok h hd b
  | 3, _ => exact st3_ok h b
  | 4, _ => exact st4_ok h b
  | 5, _ => exact st5_ok h b
  | 6, _ => exact st6_ok h b
/-- The cells of a decoder without its body. -/
def decC (d : Dec) (v : Value) : List Value := [.int .i64 (d.st : Int), .int .i64 (d.size : Int), .int .i64 (d.digits : Int), .int .i64 (d.left : Int), .string ⟨#[]⟩, .string ⟨d.line.toArray⟩, .int .i64 (d.lines : Int), .int .i64 (d.status : Int), v]
/-- Block B holds a decoder at work; its body lies in a row of its own. -/
structure DB (W : World) (B base : Nat) (d : Dec) (v : Value) : Prop where
  blk : CBlk 64 W B (decC d v)
  row : OwnB W base v d.body
  le : base ≤ B
theorem DB.cells {W : World} {B base : Nat} {d : Dec} {v : Value} (h : DB W B base d v) : W.cell? ⟨B, 0, none⟩ = some (.int .i64 (d.st : Int)) ∧ W.cell? ⟨B, 1, none⟩ = some (.int .i64 (d.size : Int)) ∧ W.cell? ⟨B, 2, none⟩ = some (.int .i64 (d.digits : Int)) ∧ W.cell? ⟨B, 3, none⟩ = some (.int .i64 (d.left : Int)) ∧ W.cell? ⟨B, 4, none⟩ = some (.string ⟨#[]⟩) ∧ W.cell? ⟨B, 5, none⟩ = some (.string ⟨d.line.toArray⟩) ∧ W.cell? ⟨B, 6, none⟩ = some (.int .i64 (d.lines : Int)) ∧ W.cell? ⟨B, 7, none⟩ = some (.int .i64 (d.status : Int)) ∧ W.cell? ⟨B, 8, none⟩ = some v := by
  have hb := h.blk
  unfold decC at hb
  exact ⟨hb.cell 0 (by simp), hb.cell 1 (by simp), hb.cell 2 (by simp), hb.cell 3 (by simp), hb.cell 4 (by simp), hb.cell 5 (by simp), hb.cell 6 (by simp), hb.cell 7 (by simp), hb.cell 8 (by simp)⟩
theorem DB.frees {W : World} {B base : Nat} {d : Dec} {v : Value} (h : DB W B base d v) : W.frozen? ⟨B, 0, none⟩ = false ∧ W.frozen? ⟨B, 1, none⟩ = false ∧ W.frozen? ⟨B, 2, none⟩ = false ∧ W.frozen? ⟨B, 3, none⟩ = false ∧ W.frozen? ⟨B, 4, none⟩ = false ∧ W.frozen? ⟨B, 5, none⟩ = false ∧ W.frozen? ⟨B, 6, none⟩ = false ∧ W.frozen? ⟨B, 7, none⟩ = false ∧ W.frozen? ⟨B, 8, none⟩ = false :=
  ⟨h.blk.free 0, h.blk.free 1, h.blk.free 2, h.blk.free 3, h.blk.free 4, h.blk.free 5, h.blk.free 6, h.blk.free 7, h.blk.free 8⟩
/-- A step that stores into one block alone. -/
theorem grown_set {W X : World} {B : Nat} (h : W.grownBy X (some B)) (i : Nat) (x : Value) : W.grownBy (X.setCell ⟨B, i, none⟩ x) (some B) :=
  ⟨h.os, h.tape, h.output, Nat.le_trans h.size (by simp), fun k hk hne => (Below.heap_setCell _ _ _ _ (fun e => hne (congrArg some e))).trans (h.block k hk hne)⟩
theorem DB.notrow {W : World} {B base : Nat} {d : Dec} {v : Value} (h : DB W B base d v) : v.ownBlock ≠ some B := fun e => h.blk.not_own (by decide) h.row e.symm
/-- Other cells than the body's. -/
theorem DB.put {W X : World} {B base : Nat} {d e : Dec} {v : Value} (h : DB W B base d v) (hg : W.grownBy X (some B)) (hb : CBlk 64 X B (decC e v)) (hd : e.body = d.body) : DB X B base e v :=
  ⟨hb, by rw [hd]; exact h.row.kept hg h.notrow, h.le⟩
theorem DB.store8 {W : World} {B base : Nat} {d : Dec} {v : Value} (h : DB W B base d v) (e : Dec) (hd : e.body = d.body) :
    DB ((((((((W.setCell ⟨B, 0, none⟩ (.int .i64 (e.st : Int))).setCell ⟨B, 1, none⟩ (.int .i64 (e.size : Int))).setCell ⟨B, 2, none⟩ (.int .i64 (e.digits : Int))).setCell ⟨B, 3, none⟩ (.int .i64 (e.left : Int))).setCell ⟨B, 4, none⟩ (.string ⟨#[]⟩)).setCell ⟨B, 5, none⟩ (.string ⟨e.line.toArray⟩)).setCell ⟨B, 6, none⟩ (.int .i64 (e.lines : Int))).setCell ⟨B, 7, none⟩ (.int .i64 (e.status : Int))) B base e v ∧
      W.grownBy ((((((((W.setCell ⟨B, 0, none⟩ (.int .i64 (e.st : Int))).setCell ⟨B, 1, none⟩ (.int .i64 (e.size : Int))).setCell ⟨B, 2, none⟩ (.int .i64 (e.digits : Int))).setCell ⟨B, 3, none⟩ (.int .i64 (e.left : Int))).setCell ⟨B, 4, none⟩ (.string ⟨#[]⟩)).setCell ⟨B, 5, none⟩ (.string ⟨e.line.toArray⟩)).setCell ⟨B, 6, none⟩ (.int .i64 (e.lines : Int))).setCell ⟨B, 7, none⟩ (.int .i64 (e.status : Int))) (some B) := by
  have hg := grown_set (grown_set (grown_set (grown_set (grown_set (grown_set (grown_set (grown_set (World.grownBy.refl W (some B)) 0 (.int .i64 (e.st : Int))) 1 (.int .i64 (e.size : Int))) 2 (.int .i64 (e.digits : Int))) 3 (.int .i64 (e.left : Int))) 4 (.string ⟨#[]⟩)) 5 (.string ⟨e.line.toArray⟩)) 6 (.int .i64 (e.lines : Int))) 7 (.int .i64 (e.status : Int))
  exact ⟨h.put hg ((((((((h.blk.set 0 (.int .i64 (e.st : Int))).set 1 (.int .i64 (e.size : Int))).set 2 (.int .i64 (e.digits : Int))).set 3 (.int .i64 (e.left : Int))).set 4 (.string ⟨#[]⟩)).set 5 (.string ⟨e.line.toArray⟩)).set 6 (.int .i64 (e.lines : Int))).set 7 (.int .i64 (e.status : Int))) hd, hg⟩
theorem DB.state {W : World} {B base : Nat} {d : Dec} {v : Value} (h : DB W B base d v) (s : Nat) : DB (W.setCell ⟨B, 0, none⟩ (.int .i64 (s : Int))) B base { d with st := s } v ∧ W.grownBy (W.setCell ⟨B, 0, none⟩ (.int .i64 (s : Int))) (some B) := by
  have hg := grown_set (World.grownBy.refl W (some B)) 0 (.int .i64 (s : Int))
  exact ⟨h.put hg (h.blk.set 0 (.int .i64 (s : Int))) rfl, hg⟩
set_option maxHeartbeats 1000000 in
theorem fail_any (W : World) (B base : Nat) (d : Dec) (v : Value) (h : DB W B base d v) (s : Nat) :
    Calls Tryz.prog 67 #[.pointer (some ⟨B, 0, none⟩), .int .i64 (s : Int)] W fun e w' => e = .returned (.tuple #[]) ∧ DB w' B base (d.bad s) v ∧ W.grownBy w' (some B) := by
  obtain ⟨c0, c1, c2, c3, c4, c5, c6, c7, c8⟩ := h.cells
  obtain ⟨f0, f1, f2, f3, f4, f5, f6, f7, f8⟩ := h.frees
  go_enter Tryz.func67, Tryz.ntmps67
  go_wp2_with fail
  exact bodyPost_end (v := .tuple #[]) (by simp [Go.results, Tryz.results67, go_sem]) rfl ⟨rfl, h.store8 (d.bad s) rfl⟩
set_option maxHeartbeats 1000000 in
theorem expect_any (W : World) (B base : Nat) (d : Dec) (v : Value) (h : DB W B base d v) (want b s : Nat) :
    Calls Tryz.prog 68 #[.pointer (some ⟨B, 0, none⟩), .int .u8 (want : Int), .int .u8 (b : Int), .int .i64 (s : Int)] W fun e w' => e = .returned (.tuple #[]) ∧ DB w' B base (if b = want then { d with st := s } else d.bad 400) v ∧ W.grownBy w' (some B) := by
  obtain ⟨c0, c1, c2, c3, c4, c5, c6, c7, c8⟩ := h.cells
  obtain ⟨f0, f1, f2, f3, f4, f5, f6, f7, f8⟩ := h.frees
  by_cases hb : b = want
  · have h1 : ((b : Int) != (want : Int)) = false := by rw [bne_eq_false_iff_eq]; omega
    have hh := h.state s
    rw [if_pos hb]
    clear hb
    go_enter Tryz.func68, Tryz.ntmps68
    go_wp2_with fail
    exact bodyPost_end (v := .tuple #[]) (by simp [Go.results, Tryz.results68, go_sem]) rfl ⟨rfl, hh⟩
  · have h1 : ((b : Int) != (want : Int)) = true := by rw [bne_iff_ne]; omega
    rw [if_neg hb]
    clear hb
    go_enter Tryz.func68, Tryz.ntmps68
    go_wp2_with fail
    refine (fail_any W B base d v h 400).mono ?_
    rintro e w' ⟨rfl, hd, hg⟩
    go_wp2_with fail
    exact bodyPost_ret (v := .tuple #[]) (by simp [Go.results, Tryz.results68, go_sem]) rfl ⟨rfl, hd, hg⟩
end Go.Proofs.YtbafmiejgpgamaaGreatDoor
