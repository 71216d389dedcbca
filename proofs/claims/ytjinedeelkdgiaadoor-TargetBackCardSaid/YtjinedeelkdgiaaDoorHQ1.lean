/-
  The checks of a target that is being read: its limit, its length, its parts. The texts are shorter than 100000 bytes; the table of verdicts holds what its initialiser lays.
  The checks of a target's length, and of the lengths of its parts; strings.Cut at a question mark. The texts are shorter than 100000 bytes.
  The checks that divide, decode and clean a target. The texts are shorter than 100000 bytes.
  The checks that decode and clean a target's path. The path is shorter than 50000 bytes.
-/
import Derived.Test.YtjinedeelkdgiaaDoorHDProg4
import Derived.Test.YtjinedeelkdgiaaDoorHPure
import Derived.Test.YtjinedeelkdgiaaDoorHGDec2
import Derived.Laws.DeepStrings4
import Derived.Test.YtjinedeelkdgiaaDoorHP
import Derived.Deep.RegionWith
namespace Go.Proofs.YtjinedeelkdgiaaDoor
open Go.RowKit
/-- The error and the status of a verdict, by its number. -/
def vdE : Nat → Nat | 0 => 0 | 1 => 2 | 2 => 4 | 3 => 3 | _ => 18
def vdS : Nat → Nat | 0 => 200 | 1 => 0 | 2 => 414 | 3 => 400 | _ => 400
def vdW (i : Nat) : Value := .agg #[.int .i64 (vdE i : Int), .int .i64 (vdS i : Int)]
/-- The table of verdicts holds what is laid. -/
def VT (w : World) : Prop := ∀ i, i < 5 → w.cell? ⟨0, 2 * i, none⟩ = some (.int .i64 (vdE i : Int)) ∧ w.cell? ⟨0, 2 * i + 1, none⟩ = some (.int .i64 (vdS i : Int))
theorem VT.lt {w : World} (h : VT w) : 0 < w.heap.size := block_lt_of_cell (h 0 (by omega)).1
theorem VT.below {w w' : World} (h : VT w) (hb : Below w.heap.size w w') : VT w' := fun i hi =>
  ⟨(hb.cell (p := ⟨_, 2 * i, none⟩) h.lt).trans (h i hi).1, (hb.cell (p := ⟨_, 2 * i + 1, none⟩) h.lt).trans (h i hi).2⟩
theorem VT.at {w : World} (h : VT w) : w.cell? ⟨0, 0, none⟩ = some (.int .i64 0) ∧ w.cell? ⟨0, 1, none⟩ = some (.int .i64 200) ∧ w.cell? ⟨0, 2, none⟩ = some (.int .i64 2) ∧ w.cell? ⟨0, 3, none⟩ = some (.int .i64 0) ∧ w.cell? ⟨0, 4, none⟩ = some (.int .i64 4) ∧ w.cell? ⟨0, 5, none⟩ = some (.int .i64 414) ∧ w.cell? ⟨0, 6, none⟩ = some (.int .i64 3) ∧ w.cell? ⟨0, 7, none⟩ = some (.int .i64 400) ∧ w.cell? ⟨0, 8, none⟩ = some (.int .i64 18) ∧ w.cell? ⟨0, 9, none⟩ = some (.int .i64 400) :=
  ⟨(h 0 (by omega)).1, (h 0 (by omega)).2, (h 1 (by omega)).1, (h 1 (by omega)).2, (h 2 (by omega)).1, (h 2 (by omega)).2, (h 3 (by omega)).1, (h 3 (by omega)).2, (h 4 (by omega)).1, (h 4 (by omega)).2⟩
theorem VT.keep {w w' : World} {row : Option Nat} (h : VT w) (hg : w.grownBy w' row) (hne : some 0 ≠ row) : VT w' := fun i hi => by
  have e := hg.block 0 h.lt hne
  have k : ∀ j, w'.cell? ⟨0, j, none⟩ = w.cell? ⟨0, j, none⟩ := fun j => by simp [World.cell?, e]
  exact ⟨(k _).trans (h i hi).1, (k _).trans (h i hi).2⟩
/-- Block B holds a target that is being read. -/
def RdB (w : World) (B : Nat) (p q t : List UInt8) (n : Int) : Prop := CBlk 60 w B [.string ⟨p.toArray⟩, .string ⟨q.toArray⟩, .string ⟨t.toArray⟩, .int .i64 n]
theorem RdB.lt {w : World} {B : Nat} {p q t : List UInt8} {n : Int} (h : RdB w B p q t n) : B < w.heap.size := CBlk.lt h
theorem RdB.cells {w : World} {B : Nat} {p q t : List UInt8} {n : Int} (h : RdB w B p q t n) : w.cell? ⟨B, 0, none⟩ = some (.string ⟨p.toArray⟩) ∧ w.cell? ⟨B, 1, none⟩ = some (.string ⟨q.toArray⟩) ∧ w.cell? ⟨B, 2, none⟩ = some (.string ⟨t.toArray⟩) ∧ w.cell? ⟨B, 3, none⟩ = some (.int .i64 n) :=
  ⟨CBlk.cell h 0 (by simp), CBlk.cell h 1 (by simp), CBlk.cell h 2 (by simp), CBlk.cell h 3 (by simp)⟩
theorem RdB.frees {w : World} {B : Nat} {p q t : List UInt8} {n : Int} (h : RdB w B p q t n) : w.frozen? ⟨B, 0, none⟩ = false ∧ w.frozen? ⟨B, 1, none⟩ = false := ⟨CBlk.free h 0, CBlk.free h 1⟩
theorem RdB.below {w w' : World} {B m : Nat} {p q t : List UInt8} {n : Int} (h : RdB w B p q t n) (hb : Below m w w') (hn : B < m) : RdB w' B p q t n := CBlk.below h hb hn
theorem RdB.path {w : World} {B : Nat} {p q t : List UInt8} {n : Int} (h : RdB w B p q t n) (x : List UInt8) : RdB (w.setCell ⟨B, 0, none⟩ (.string ⟨x.toArray⟩)) B x q t n := CBlk.set h 0 _
theorem RdB.place {w : World} {B : Nat} {p q t : List UInt8} {n : Int} (h : RdB w B p q t n) (x y : List UInt8) : RdB ((w.setCell ⟨B, 0, none⟩ (.string ⟨x.toArray⟩)).setCell ⟨B, 1, none⟩ (.string ⟨y.toArray⟩)) B x y t n := (CBlk.set (CBlk.set h 0 (.string ⟨x.toArray⟩)) 1 (.string ⟨y.toArray⟩))
theorem grown_of {W W' : World} {B : Nat} (h : Below W.heap.size W W') : W.grownBy W' (some B) := ⟨h.os, h.tape, h.output, h.size, fun k hk _ => h.block k hk⟩
/-- A verdict as a result. -/
theorem vcells2 {t : TypeId} {w : World} {B : Nat} {a b : Value} (h : CBlk t w B [a, b]) : w.cell? ⟨B, 0, none⟩ = some a ∧ w.cell? ⟨B, 1, none⟩ = some b := ⟨h.cell 0 (by simp), h.cell 1 (by simp)⟩
theorem vstore2 {t : TypeId} {w : World} {B : Nat} {a b : Value} (h : CBlk t w B [a, b]) (x y : Value) : CBlk t ((w.setCell ⟨B, 0, none⟩ x).setCell ⟨B, 1, none⟩ y) B [x, y] := (h.set 0 x).set 1 y
theorem vbelow2 {n : Nat} {w W : World} {B : Nat} (hB : Below n w W) (h : n ≤ B) (x y : Value) : Below n w ((W.setCell ⟨B, 0, none⟩ x).setCell ⟨B, 1, none⟩ y) := (hB.setCell (p := ⟨B, 0, none⟩) h x).setCell (p := ⟨B, 1, none⟩) h y
theorem v_result {w : World} {B : Nat} {a b : Value} (h1 : CBlk 55 w B [a, b]) {fn : Func} {p : Tmp} (h : fn.results = #[.cell p 55]) (tmps : Array Value)
    (hp : tmps.getD p undef = .pointer (some ⟨B, 0, none⟩)) : (Go.results fn tmps).run Tryd.prog w = .ok (.agg #[a, b]) w := by
  have hp' : tmps[p]?.getD undef = .pointer (some ⟨B, 0, none⟩) := by simpa using hp
  obtain ⟨c0, c1⟩ := vcells2 h1
  simp [Go.results, h, hp', asAddr, go_sem, c0, c1]
/-- Memory of a check: its verdict, empty. -/
theorem check_new (W : World) : CBlk 55 (W.alloc (.cells #[.int .i64 0, .int .i64 0] 55)) W.heap.size [.int .i64 0, .int .i64 0] := CBlk.new _ W [.int .i64 0, .int .i64 0]
theorem below_new (W : World) (o : Obj) : Below W.heap.size W (W.alloc o) := (Below.refl _ W).alloc (Nat.le_refl _) o
set_option maxHeartbeats 2000000 in
theorem checkLimit_any (p q t : List UInt8) (n : Int) (W : World) (B : Nat) (h : RdB W B p q t n) (hV : VT W) :
    Calls Tryd.prog 57 #[.pointer (some ⟨B, 0, none⟩)] W fun e w' => e = .returned (vdW (if n < 1 ∨ 128 < n then 1 else 0)) ∧ Below W.heap.size W w' := by
  obtain ⟨c0, c1, c2, c3⟩ := (h.below (below_new W (.cells #[.int .i64 0, .int .i64 0] 55)) h.lt).cells
  obtain ⟨v0, v1, v2, v3, v4, v5, v6, v7, v8, v9⟩ := (hV.below (below_new W (.cells #[.int .i64 0, .int .i64 0] 55))).at
  have hN := check_new W
  have hB := below_new W (.cells #[.int .i64 0, .int .i64 0] 55)
  obtain ⟨d0, d1⟩ := vcells2 hN
  have f0 := hN.free 0
  have f1 := hN.free 1
  obtain ⟨r, hr⟩ : ∃ r : Nat, (if n < 1 ∨ 128 < n then 1 else 0) = r := ⟨_, rfl⟩
  rw [hr]
  go_enter Tryd.func57, Tryd.ntmps57
  go_upto_region 1 with fail
  obtain ⟨X, hX⟩ : ∃ X, W.alloc (.cells #[.int .i64 0, .int .i64 0] 55) = X := ⟨_, rfl⟩
  rw [hX] at c0 c1 c2 c3 v0 v1 v2 v3 v4 v5 v6 v7 v8 v9 hN hB d0 d1 f0 f1 ⊢
  clear hX
  by_cases h1 : n < 1
  · have a1 : decide (n < 1) = true := decide_eq_true h1
    obtain rfl : r = 1 := by rw [← hr, if_pos (.inl h1)]
    clear h1 hr
    go_wp2_with fail
    exact bodyPost_ret (v_result (vstore2 hN _ _) rfl _ rfl) rfl ⟨rfl, vbelow2 hB (Nat.le_refl _) _ _⟩
  · have a1 : decide (n < 1) = false := decide_eq_false h1
    by_cases h2 : 128 < n
    · have a2 : decide (128 < n) = true := decide_eq_true h2
      obtain rfl : r = 1 := by rw [← hr, if_pos (.inr h2)]
      clear h1 h2 hr
      go_wp2_with fail
      exact bodyPost_ret (v_result (vstore2 hN _ _) rfl _ rfl) rfl ⟨rfl, vbelow2 hB (Nat.le_refl _) _ _⟩
    · have a2 : decide (128 < n) = false := decide_eq_false h2
      obtain rfl : r = 0 := by rw [← hr, if_neg (fun c => c.elim h1 h2)]
      clear h1 h2 hr
      go_wp2_with fail
      exact bodyPost_ret (v_result (vstore2 hN _ _) rfl _ rfl) rfl ⟨rfl, vbelow2 hB (Nat.le_refl _) _ _⟩
end Go.Proofs.YtjinedeelkdgiaaDoor
namespace Go.Proofs.YtjinedeelkdgiaaDoor
open Go.RowKit
set_option maxHeartbeats 2000000 in
theorem checkLength_any (p q t : List UInt8) (n : Int) (W : World) (B : Nat) (h : RdB W B p q t n) (hV : VT W) :
    Calls Tryd.prog 30 #[.pointer (some ⟨B, 0, none⟩)] W fun e w' => e = .returned (vdW (if 1024 < t.length then 2 else 0)) ∧ Below W.heap.size W w' := by
  obtain ⟨c0, c1, c2, c3⟩ := (h.below (below_new W (.cells #[.int .i64 0, .int .i64 0] 55)) h.lt).cells
  obtain ⟨v0, v1, v2, v3, v4, v5, v6, v7, v8, v9⟩ := (hV.below (below_new W (.cells #[.int .i64 0, .int .i64 0] 55))).at
  have hN := check_new W
  have hB := below_new W (.cells #[.int .i64 0, .int .i64 0] 55)
  obtain ⟨d0, d1⟩ := vcells2 hN
  have f0 := hN.free 0
  have f1 := hN.free 1
  obtain ⟨r, hr⟩ : ∃ r : Nat, (if 1024 < t.length then 2 else 0) = r := ⟨_, rfl⟩
  rw [hr]
  go_enter Tryd.func30, Tryd.ntmps30
  go_upto_region 1 with fail
  obtain ⟨X, hX⟩ : ∃ X, W.alloc (.cells #[.int .i64 0, .int .i64 0] 55) = X := ⟨_, rfl⟩
  rw [hX] at c0 c1 c2 c3 v0 v1 v2 v3 v4 v5 v6 v7 v8 v9 hN hB d0 d1 f0 f1 ⊢
  clear hX
  by_cases h1 : 1024 < t.length
  · have a1 : decide ((1024 : Int) < (t.length : Int)) = true := decide_eq_true (by omega)
    obtain rfl : r = 2 := by rw [← hr, if_pos h1]
    clear h1 hr
    go_wp2_with fail
    exact bodyPost_ret (v_result (vstore2 hN _ _) rfl _ rfl) rfl ⟨rfl, vbelow2 hB (Nat.le_refl _) _ _⟩
  · have a1 : decide ((1024 : Int) < (t.length : Int)) = false := decide_eq_false (by omega)
    obtain rfl : r = 0 := by rw [← hr, if_neg h1]
    clear h1 hr
    go_wp2_with fail
    exact bodyPost_ret (v_result (vstore2 hN _ _) rfl _ rfl) rfl ⟨rfl, vbelow2 hB (Nat.le_refl _) _ _⟩
set_option maxHeartbeats 2000000 in
theorem checkParts_any (p q t : List UInt8) (n : Int) (W : World) (B : Nat) (h : RdB W B p q t n) (hV : VT W) :
    Calls Tryd.prog 60 #[.pointer (some ⟨B, 0, none⟩)] W fun e w' => e = .returned (vdW (if n < p.length ∨ 128 < q.length then 2 else 0)) ∧ Below W.heap.size W w' := by
  obtain ⟨c0, c1, c2, c3⟩ := (h.below (below_new W (.cells #[.int .i64 0, .int .i64 0] 55)) h.lt).cells
  obtain ⟨v0, v1, v2, v3, v4, v5, v6, v7, v8, v9⟩ := (hV.below (below_new W (.cells #[.int .i64 0, .int .i64 0] 55))).at
  have hN := check_new W
  have hB := below_new W (.cells #[.int .i64 0, .int .i64 0] 55)
  obtain ⟨d0, d1⟩ := vcells2 hN
  have f0 := hN.free 0
  have f1 := hN.free 1
  obtain ⟨r, hr⟩ : ∃ r : Nat, (if n < p.length ∨ 128 < q.length then 2 else 0) = r := ⟨_, rfl⟩
  rw [hr]
  go_enter Tryd.func60, Tryd.ntmps60
  go_upto_region 1 with fail
  obtain ⟨X, hX⟩ : ∃ X, W.alloc (.cells #[.int .i64 0, .int .i64 0] 55) = X := ⟨_, rfl⟩
  rw [hX] at c0 c1 c2 c3 v0 v1 v2 v3 v4 v5 v6 v7 v8 v9 hN hB d0 d1 f0 f1 ⊢
  clear hX
  by_cases h1 : n < p.length
  · have a1 : decide (n < (p.length : Int)) = true := decide_eq_true h1
    obtain rfl : r = 2 := by rw [← hr, if_pos (.inl h1)]
    clear h1 hr
    go_region
    all_goals
      go_wp2_with fail
      exact bodyPost_ret (v_result (vstore2 hN.drew _ _) rfl _ rfl) rfl ⟨rfl, vbelow2 hB.drew (Nat.le_refl _) _ _⟩
  · have a1 : decide (n < (p.length : Int)) = false := decide_eq_false h1
    by_cases h2 : 128 < q.length
    · have a2 : decide ((128 : Int) < (q.length : Int)) = true := decide_eq_true (by omega)
      obtain rfl : r = 2 := by rw [← hr, if_pos (.inr h2)]
      clear h1 h2 hr
      go_region
      all_goals
        go_wp2_with fail
        exact bodyPost_ret (v_result (vstore2 hN.drew _ _) rfl _ rfl) rfl ⟨rfl, vbelow2 hB.drew (Nat.le_refl _) _ _⟩
    · have a2 : decide ((128 : Int) < (q.length : Int)) = false := decide_eq_false (by omega)
      obtain rfl : r = 0 := by rw [← hr, if_neg (fun c => c.elim h1 h2)]
      clear h1 h2 hr
      go_region
      all_goals
        go_wp2_with fail
        exact bodyPost_ret (v_result (vstore2 hN.drew _ _) rfl _ rfl) rfl ⟨rfl, vbelow2 hB.drew (Nat.le_refl _) _ _⟩
theorem cutB_index : ∀ (l : List UInt8), (∃ k, k < l.length ∧ Lib.indexByte l 63 = (k : Int) ∧ cutB 63 l = (l.take k, l.drop (k + 1))) ∨ (Lib.indexByte l 63 = -1 ∧ cutB 63 l = (l, []))
  | [] => .inr ⟨rfl, rfl⟩
  | c :: r => by
    by_cases hc : c = 63
    · left
      subst hc
      exact ⟨0, by simp, by simp [Lib.indexByte], by simp [cutB]⟩
    · have hb : (c == 63) = false := by simpa using hc
      rcases cutB_index r with ⟨k, h1, h2, h3⟩ | ⟨h2, h3⟩
      · left
        refine ⟨k + 1, by simp; omega, ?_, ?_⟩
        · unfold Lib.indexByte
          rw [hb, h2, if_neg (by simp), if_neg (by simp)]
          rfl
        · rw [cutB, if_neg hc, h3]
          simp
      · right
        refine ⟨?_, ?_⟩
        · unfold Lib.indexByte
          rw [hb, h2]
          simp
        · rw [cutB, if_neg hc, h3]
theorem bq_fst (l : List UInt8) (k : Nat) : (ByteArray.mk l.toArray).extract 0 k = ⟨(l.take k).toArray⟩ := by
  rw [ba_mid]
  simp
theorem bq_snd (l : List UInt8) (k : Nat) : (ByteArray.mk l.toArray).extract k l.length = ⟨(l.drop k).toArray⟩ := by
  rw [ba_mid]
  simp
set_option maxRecDepth 100000 in
set_option maxHeartbeats 4000000 in
theorem slCut_any (l : List UInt8) (hl : l.length < 100000) (w : World) :
    Calls Tryd.prog 81 #[.string ⟨l.toArray⟩, .string ⟨#[63]⟩] w fun e w' => (∃ b, e = .returned (.tuple #[.string ⟨(rawL l).toArray⟩, .string ⟨(qL l).toArray⟩, .bool b])) ∧ Below w.heap.size w w' := by
  unfold rawL qL
  rcases cutB_index l with ⟨k, hk, hidx, hcut⟩ | ⟨hidx, hcut⟩
  · have HIDX := Lib.hid hidx
    have d1 : decide (0 ≤ (k : Int)) = true := decide_eq_true (by omega)
    have f1 := bq_fst l k
    have f2 := bq_snd l (k + 1)
    obtain ⟨A, hA⟩ : ∃ A, l.take k = A := ⟨_, rfl⟩
    obtain ⟨B, hB⟩ : ∃ B, l.drop (k + 1) = B := ⟨_, rfl⟩
    rw [hA] at f1 hcut
    rw [hB] at f2 hcut
    rw [hcut]
    have q1 : IntKind.i64.wrap ((k : Int) + 1) = ((k + 1 : Nat) : Int) := by rw [IntKind.wrap_i64]; omega
    have hb3 : (k : Int) ≤ (l.length : Int) := by omega
    have hb4 : ((k + 1 : Nat) : Int) ≤ (l.length : Int) := by omega
    clear hA hB hcut hidx
    go_enter Tryd.func81, Tryd.ntmps81
    go_wp2_with fail
    refine (index63_any l _).mono ?_
    rintro e w' ⟨rfl, rfl⟩
    rw [HIDX.out]
    go_wp2_with fail
    go_region
    all_goals
      go_wp2_with fail
      go_ret3
      exact ⟨⟨true, rfl⟩, (Below.refl _ _).drew⟩
  · have HIDX := Lib.hid hidx
    rw [hcut]
    clear hcut hidx
    go_enter Tryd.func81, Tryd.ntmps81
    go_wp2_with fail
    refine (index63_any l _).mono ?_
    rintro e w' ⟨rfl, rfl⟩
    rw [HIDX.out]
    go_wp2_with fail
    go_ret3
    exact ⟨⟨false, rfl⟩, Below.refl _ _⟩
theorem cut63_any (l : List UInt8) (hl : l.length < 100000) (w : World) :
    Calls Tryd.prog 54 #[.string ⟨l.toArray⟩, .string ⟨#[63]⟩] w fun e w' => (∃ b, e = .returned (.tuple #[.string ⟨(rawL l).toArray⟩, .string ⟨(qL l).toArray⟩, .bool b])) ∧ Below w.heap.size w w' := by
  go_enter Tryd.func54, Tryd.ntmps54
  go_wp2_with fail
  refine (slCut_any l hl _).mono ?_
  rintro e w' ⟨⟨b, rfl⟩, hb⟩
  go_wp2_with fail
  go_ret3
  exact ⟨⟨b, rfl⟩, hb⟩
end Go.Proofs.YtjinedeelkdgiaaDoor
namespace Go.Proofs.YtjinedeelkdgiaaDoor
open Go.RowKit
/-- Memory of a check: the reading and the verdict, and nothing else that was there before has changed. -/
structure QM (W X : World) (B : Nat) (p q t : List UInt8) (n : Int) : Prop where
  rd : RdB X B p q t n
  vb : CBlk 55 X W.heap.size [.int .i64 0, .int .i64 0]
  gr : W.grownBy X (some B)
  vt : VT X
theorem QM.new {W : World} {B : Nat} {p q t : List UInt8} {n : Int} (h : RdB W B p q t n) (hV : VT W) : QM W (W.alloc (.cells #[.int .i64 0, .int .i64 0] 55)) B p q t n :=
  ⟨h.below (below_new W _) h.lt, check_new W, grown_of (below_new W _), hV.below (below_new W _)⟩
theorem grown_trans {W X Y : World} {B : Nat} (h : W.grownBy X (some B)) (hb : Below X.heap.size X Y) : W.grownBy Y (some B) :=
  ⟨hb.os.trans h.os, hb.tape.trans h.tape, hb.output.trans h.output, Nat.le_trans h.size hb.size, fun k hk hne => (hb.block k (Nat.lt_of_lt_of_le hk h.size)).trans (h.block k hk hne)⟩
theorem QM.below {W X Y : World} {B : Nat} {p q t : List UInt8} {n : Int} (h : QM W X B p q t n) (hb : Below X.heap.size X Y) : QM W Y B p q t n :=
  ⟨h.rd.below hb h.rd.lt, h.vb.below hb h.vb.lt, grown_trans h.gr hb, h.vt.below hb⟩
theorem QM.drew {W X : World} {B : Nat} {p q t : List UInt8} {n : Int} (h : QM W X B p q t n) : QM W X.drew B p q t n := h.below (Below.refl _ X).drew
theorem grown_set {W X : World} {B : Nat} (h : W.grownBy X (some B)) (i : Nat) (v : Value) : W.grownBy (X.setCell ⟨B, i, none⟩ v) (some B) :=
  ⟨h.os, h.tape, h.output, by simpa using h.size, fun k hk hne => (Below.heap_setCell _ _ _ _ (fun e => hne (by rw [e]))).trans (h.block k hk hne)⟩
theorem grown_new {W X : World} {B k : Nat} (h : W.grownBy X (some B)) (hk : W.heap.size ≤ k) (i : Nat) (v : Value) : W.grownBy (X.setCell ⟨k, i, none⟩ v) (some B) :=
  ⟨h.os, h.tape, h.output, by simpa using h.size, fun j hj hne => (Below.heap_setCell _ _ _ _ (show j ≠ k by omega)).trans (h.block j hj hne)⟩
theorem vt_set {X : World} {B : Nat} (h : VT X) (hB : B ≠ 0) (i : Nat) (v : Value) : VT (X.setCell ⟨B, i, none⟩ v) := fun j hj => by
  have e : (X.setCell ⟨B, i, none⟩ v).heap[0]? = X.heap[0]? := Below.heap_setCell _ _ _ _ (fun e => hB e.symm)
  have k : ∀ m, (X.setCell ⟨B, i, none⟩ v).cell? ⟨0, m, none⟩ = X.cell? ⟨0, m, none⟩ := fun m => by simp only [World.cell?, e]
  exact ⟨(k _).trans (h j hj).1, (k _).trans (h j hj).2⟩
theorem rd_ne {W : World} {B : Nat} {p q t : List UInt8} {n : Int} (h : RdB W B p q t n) (hV : VT W) : B ≠ 0 := fun e => by
  have a := h.cells.1
  rw [e] at a
  have b := (hV 0 (by omega)).1
  rw [Nat.mul_zero, a] at b
  cases b
theorem QM.path {W X : World} {B : Nat} {p q t : List UInt8} {n : Int} (h : QM W X B p q t n) (hB : B ≠ W.heap.size) (x : List UInt8) : QM W (X.setCell ⟨B, 0, none⟩ (.string ⟨x.toArray⟩)) B x q t n :=
  ⟨h.rd.path x, h.vb.other _ hB _, grown_set h.gr _ _, vt_set h.vt (rd_ne h.rd h.vt) _ _⟩
theorem QM.place {W X : World} {B : Nat} {p q t : List UInt8} {n : Int} (h : QM W X B p q t n) (hB : B ≠ W.heap.size) (x y : List UInt8) : QM W ((X.setCell ⟨B, 0, none⟩ (.string ⟨x.toArray⟩)).setCell ⟨B, 1, none⟩ (.string ⟨y.toArray⟩)) B x y t n :=
  ⟨h.rd.place x y, (h.vb.other _ hB _).other _ hB _, grown_set (grown_set h.gr _ _) _ _, vt_set (vt_set h.vt (rd_ne h.rd h.vt) _ _) (rd_ne h.rd h.vt) _ _⟩
/-- What stands behind the verdict's store. -/
theorem QM.out {W X : World} {B : Nat} {p q t : List UInt8} {n : Int} (h : QM W X B p q t n) (hB : B ≠ W.heap.size) (a b : Value) : RdB ((X.setCell ⟨W.heap.size, 0, none⟩ a).setCell ⟨W.heap.size, 1, none⟩ b) B p q t n ∧ W.grownBy ((X.setCell ⟨W.heap.size, 0, none⟩ a).setCell ⟨W.heap.size, 1, none⟩ b) (some B) :=
  ⟨(CBlk.other (CBlk.other h.rd _ (fun e => hB e.symm) _) _ (fun e => hB e.symm) _), grown_new (grown_new h.gr (Nat.le_refl _) _ _) (Nat.le_refl _) _ _⟩
def okR (b : Bool) : Nat := if b then 0 else 3
set_option maxRecDepth 100000 in
set_option maxHeartbeats 4000000 in
theorem divide_any (p q t : List UInt8) (ht : t.length < 100000) (n : Int) (W : World) (B : Nat) (h : RdB W B p q t n) (hV : VT W) :
    Calls Tryd.prog 31 #[.pointer (some ⟨B, 0, none⟩)] W fun e w' => e = .returned (vdW (if tgtB t then 0 else 3)) ∧ RdB w' B (if tgtB t then rawL t else p) (if tgtB t then qL t else q) t n ∧ W.grownBy w' (some B) := by
  have hne : B ≠ W.heap.size := Nat.ne_of_lt h.lt
  have hQ := QM.new h hV
  obtain ⟨n0, n1, n2, n3, hn⟩ : ∃ y0 y1 y2 y3, Hid (charS = ⟨y0, y1, y2, y3⟩) := ⟨_, _, _, _, Lib.hid rfl⟩
  obtain ⟨b, hb⟩ : ∃ b, charB t = b := ⟨_, rfl⟩
  have HC := Lib.hid (chars_any n0 n1 n2 n3 hn)
  have HA : Hid (∀ W : World, Calls Tryd.prog 53 #[.agg #[.int .u64 n0.toNat, .int .u64 n1.toNat, .int .u64 n2.toNat, .int .u64 n3.toNat], .string ⟨t.toArray⟩] W fun e w' => e = .returned (.bool b) ∧ Below W.heap.size W w') := Lib.hid fun W => by
    have h := tall_any n0 n1 n2 n3 t (by unfold maxLen; omega) W
    rw [← hn.out] at h
    rw [← hb]
    exact h
  have HP : Hid (∀ W : World, Calls Tryd.prog 52 #[.string ⟨t.toArray⟩, .string ⟨#[47]⟩] W fun e w' => e = .returned (.bool (pathB t)) ∧ W = w') := Lib.hid fun W => by
    have h := prefix_any t [47] W
    rw [path_prefix] at h
    exact h
  have hT : tgtB t = (pathB t && b) := by unfold tgtB; rw [hb]
  obtain ⟨a, ha⟩ : ∃ a, pathB t = a := ⟨_, rfl⟩
  rw [ha] at HP hT
  clear hn hb ha
  obtain ⟨x, hx⟩ : ∃ x, rawL t = x := ⟨_, rfl⟩
  obtain ⟨y, hy⟩ : ∃ y, qL t = y := ⟨_, rfl⟩
  have HCUT := Lib.hid fun W => cut63_any t ht W
  rw [hx, hy] at HCUT
  rw [hx, hy]
  obtain ⟨hlx, hly⟩ := cut_len t
  rw [hx] at hlx
  rw [hy] at hly
  clear hx hy
  obtain ⟨V, hV1⟩ : ∃ V : Nat, (if tgtB t then 0 else 3) = V := ⟨_, rfl⟩
  obtain ⟨P', hP1⟩ : ∃ P', (if tgtB t then x else p) = P' := ⟨_, rfl⟩
  obtain ⟨Q', hQ1⟩ : ∃ Q', (if tgtB t then y else q) = Q' := ⟨_, rfl⟩
  rw [hV1, hP1, hQ1]
  have HNO : Hid ((a && b) = false → 3 = V ∧ p = P' ∧ q = Q') := Lib.hid fun e => by
    rw [hT, e] at hV1 hP1 hQ1
    exact ⟨hV1, hP1, hQ1⟩
  have HYES : Hid ((a && b) = true → 0 = V ∧ x = P' ∧ y = Q') := Lib.hid fun e => by
    rw [hT, e] at hV1 hP1 hQ1
    exact ⟨hV1, hP1, hQ1⟩
  clear hT hV1 hP1 hQ1
  cases a
  · obtain ⟨rfl, rfl, rfl⟩ := HNO.out rfl
    clear HNO HYES HCUT HA HC
    go_enter Tryd.func31, Tryd.ntmps31
    go_upto_region 1 with fail
    obtain ⟨X, hX⟩ : ∃ X, W.alloc (.cells #[.int .i64 0, .int .i64 0] 55) = X := ⟨_, rfl⟩
    rw [hX] at hQ ⊢
    clear hX h hV
    refine wp_region_noPanic ?_
    refine wp_region_held_drew (S := fun wx => QM W wx B p q t n) (by kernel_rfl) ?_ (fun hHeld => ?_)
    focus ((try dsimp only); (first | (with_reducible exact hQ.drew) | (with_reducible exact hQ) | (with_reducible assumption) | exact QM.below hHeld hb))
    try simp only [Act.put, List.setIfInBounds_toArray, List.set_cons_zero, List.set_cons_succ]
    refine wpAnyH_take (i := 0) (oi := { dst := some 6, op := Go.Op.move (Go.Operand.tmp 0), type := 89, pos := "target.go:157", after := #[], guard := none }) (v := ?_) rfl (by kernel_rfl) (by kernel_rfl) (by kernel_rfl) (fun _ _ _ h => h) (Or.inl ⟨by rfl, ?_⟩) (by assumption) ?_
    rotate_left
    focus ((intro w hSw; (try dsimp only at hSw); go_simp) <;> (with_reducible rfl))
    try simp only [Act.put, List.setIfInBounds_toArray, List.set_cons_zero, List.set_cons_succ]
    refine wpAnyH_take (i := 1) (oi := { dst := some 7, op := Go.Op.nilCheck (Go.Operand.tmp 6), type := 0, pos := "target.go:157", after := #[{ on := 0, ground := Go.Ground.data }], guard := none }) (v := ?_) rfl (by kernel_rfl) (by kernel_rfl) (by kernel_rfl) (fun _ _ _ h => h) (Or.inl ⟨by rfl, ?_⟩) (by assumption) ?_
    rotate_left
    focus ((intro w hSw; (try dsimp only at hSw); go_simp) <;> (with_reducible rfl))
    try simp only [Act.put, List.setIfInBounds_toArray, List.set_cons_zero, List.set_cons_succ]
    refine wpAnyH_take (i := 2) (oi := { dst := some 8, op := Go.Op.fieldAddr 60 (Go.Operand.tmp 7) 1, type := 0, pos := "target.go:157", after := #[{ on := 1, ground := Go.Ground.data }], guard := none }) (v := ?_) rfl (by kernel_rfl) (by kernel_rfl) (by kernel_rfl) (fun _ _ _ h => h) (Or.inl ⟨by rfl, ?_⟩) (by assumption) ?_
    rotate_left
    focus ((intro w hSw; (try dsimp only at hSw); go_simp) <;> (with_reducible rfl))
    try simp only [Act.put, List.setIfInBounds_toArray, List.set_cons_zero, List.set_cons_succ]
    refine wpAnyH_take (i := 3) (oi := { dst := some 9, op := Go.Op.load 9 (Go.Operand.tmp 8), type := 9, pos := "target.go:157", after := #[{ on := 2, ground := Go.Ground.data }], guard := none }) (v := ?_) rfl (by kernel_rfl) (by kernel_rfl) (by kernel_rfl) (fun _ _ _ h => h) (Or.inl ⟨by rfl, ?_⟩) (by assumption) ?_
    rotate_left
    focus ((intro w hSw; have hSw : QM W w B p q t n := hSw; obtain ⟨c0, c1, c2, c3⟩ := hSw.rd.cells; go_simp) <;> (with_reducible rfl))
    try simp only [Act.put, List.setIfInBounds_toArray, List.set_cons_zero, List.set_cons_succ]
    refine wpAnyH_ready (rs := [4]) (by kernel_rfl) (by simp) ?_
    refine AllReadyH.cons (o := { dst := some 10, op := Go.Op.call { callee := Go.Callee.value (Go.Operand.func 52), args := #[Go.Operand.tmp 9, Go.Operand.const (Go.Value.string { data := #[47] })], argTypes := #[9, 9] }, type := 4, pos := "target.go:157", after := #[{ on := 3, ground := Go.Ground.data }], guard := none }) rfl (fun K hK => ?_) AllReadyH.nil
    go_simp
    (go_at_call 52; refine (HP.out _).mono ?_; rintro e w' ⟨rfl, rfl⟩)
    first | (go_wp2_with fail) | skip
    refine hK.out _ _ ?_ (fun hNew => ?_)
    focus ((try dsimp only); (first | (with_reducible exact hQ.drew) | (with_reducible exact hQ) | (with_reducible assumption) | exact QM.below hHeld hb))
    clear hK K hHeld
    have hHeld := hNew
    clear hNew
    try simp only [Act.put, List.setIfInBounds_toArray, List.set_cons_zero, List.set_cons_succ]
    refine wpAnyH_take (i := 5) (oi := { dst := some 11, op := Go.Op.unOp Go.UnOp.not 4 (Go.Operand.tmp 10), type := 4, pos := "target.go:157", after := #[{ on := 4, ground := Go.Ground.data }], guard := none }) (v := ?_) rfl (by kernel_rfl) (by kernel_rfl) (by kernel_rfl) (fun _ _ _ h => h) (Or.inl ⟨by rfl, ?_⟩) (by assumption) ?_
    rotate_left
    focus ((intro w hSw; (try dsimp only at hSw); go_simp) <;> (with_reducible rfl))
    try simp only [Act.put, List.setIfInBounds_toArray, List.set_cons_zero, List.set_cons_succ]
    refine wpAnyH_take (i := 6) (oi := { dst := some 12, op := Go.Op.move (Go.Operand.tmp 11), type := 4, pos := "target.go:157", after := #[{ on := 5, ground := Go.Ground.data }, { on := 4, ground := Go.Ground.chain }], guard := none }) (v := ?_) rfl (by kernel_rfl) (by kernel_rfl) (by kernel_rfl) (fun _ _ _ h => h) (Or.inl ⟨by rfl, ?_⟩) (by assumption) ?_
    rotate_left
    focus ((intro w hSw; (try dsimp only at hSw); go_simp) <;> (with_reducible rfl))
    try simp only [Act.put, List.setIfInBounds_toArray, List.set_cons_zero, List.set_cons_succ]
    refine wpAnyH_take (i := 7) (oi := { dst := some 13, op := Go.Op.call { callee := Go.Callee.value (Go.Operand.func 21), args := #[], argTypes := #[] }, type := 38, pos := "target.go:157", after := #[{ on := 6, ground := Go.Ground.chain }, { on := 6, ground := Go.Ground.guard }], guard := some (6, false) }) (v := undef) rfl (by kernel_rfl) (by kernel_rfl) (by kernel_rfl) (fun _ _ _ h => h) (Or.inr ⟨by rfl, rfl⟩) (by assumption) ?_
    try simp only [Act.put, List.setIfInBounds_toArray, List.set_cons_zero, List.set_cons_succ]
    refine wpAnyH_take (i := 8) (oi := { dst := some 14, op := Go.Op.move (Go.Operand.tmp 0), type := 89, pos := "target.go:157", after := #[{ on := 6, ground := Go.Ground.guard }], guard := some (6, false) }) (v := undef) rfl (by kernel_rfl) (by kernel_rfl) (by kernel_rfl) (fun _ _ _ h => h) (Or.inr ⟨by rfl, rfl⟩) (by assumption) ?_
    try simp only [Act.put, List.setIfInBounds_toArray, List.set_cons_zero, List.set_cons_succ]
    refine wpAnyH_take (i := 9) (oi := { dst := some 15, op := Go.Op.nilCheck (Go.Operand.tmp 14), type := 0, pos := "target.go:157", after := #[{ on := 8, ground := Go.Ground.data }, { on := 6, ground := Go.Ground.guard }], guard := some (6, false) }) (v := undef) rfl (by kernel_rfl) (by kernel_rfl) (by kernel_rfl) (fun _ _ _ h => h) (Or.inr ⟨by rfl, rfl⟩) (by assumption) ?_
    try simp only [Act.put, List.setIfInBounds_toArray, List.set_cons_zero, List.set_cons_succ]
    refine wpAnyH_take (i := 10) (oi := { dst := some 16, op := Go.Op.fieldAddr 60 (Go.Operand.tmp 15) 1, type := 0, pos := "target.go:157", after := #[{ on := 9, ground := Go.Ground.data }, { on := 6, ground := Go.Ground.guard }], guard := some (6, false) }) (v := undef) rfl (by kernel_rfl) (by kernel_rfl) (by kernel_rfl) (fun _ _ _ h => h) (Or.inr ⟨by rfl, rfl⟩) (by assumption) ?_
    try simp only [Act.put, List.setIfInBounds_toArray, List.set_cons_zero, List.set_cons_succ]
    refine wpAnyH_take (i := 11) (oi := { dst := some 17, op := Go.Op.load 9 (Go.Operand.tmp 16), type := 9, pos := "target.go:157", after := #[{ on := 10, ground := Go.Ground.data }, { on := 6, ground := Go.Ground.guard }], guard := some (6, false) }) (v := undef) rfl (by kernel_rfl) (by kernel_rfl) (by kernel_rfl) (fun _ _ _ h => h) (Or.inr ⟨by rfl, rfl⟩) (by assumption) ?_
    try simp only [Act.put, List.setIfInBounds_toArray, List.set_cons_zero, List.set_cons_succ]
    refine wpAnyH_take (i := 12) (oi := { dst := some 18, op := Go.Op.call { callee := Go.Callee.value (Go.Operand.func 53), args := #[Go.Operand.tmp 13, Go.Operand.tmp 17], argTypes := #[38, 9] }, type := 4, pos := "target.go:157", after := #[{ on := 7, ground := Go.Ground.data }, { on := 11, ground := Go.Ground.data }, { on := 7, ground := Go.Ground.chain }, { on := 6, ground := Go.Ground.guard }], guard := some (6, false) }) (v := undef) rfl (by kernel_rfl) (by kernel_rfl) (by kernel_rfl) (fun _ _ _ h => h) (Or.inr ⟨by rfl, rfl⟩) (by assumption) ?_
    try simp only [Act.put, List.setIfInBounds_toArray, List.set_cons_zero, List.set_cons_succ]
    refine wpAnyH_take (i := 13) (oi := { dst := some 19, op := Go.Op.unOp Go.UnOp.not 4 (Go.Operand.tmp 18), type := 4, pos := "target.go:157", after := #[{ on := 12, ground := Go.Ground.data }, { on := 6, ground := Go.Ground.guard }], guard := some (6, false) }) (v := undef) rfl (by kernel_rfl) (by kernel_rfl) (by kernel_rfl) (fun _ _ _ h => h) (Or.inr ⟨by rfl, rfl⟩) (by assumption) ?_
    try simp only [Act.put, List.setIfInBounds_toArray, List.set_cons_zero, List.set_cons_succ]
    refine wpAnyH_take (i := 14) (oi := { dst := some 20, op := Go.Op.pick (Go.Operand.tmp 12) (Go.Operand.const (Go.Value.bool true)) (Go.Operand.tmp 19), type := 4, pos := "target.go:157", after := #[{ on := 6, ground := Go.Ground.data }, { on := 13, ground := Go.Ground.data }], guard := none }) (v := ?_) rfl (by kernel_rfl) (by kernel_rfl) (by kernel_rfl) (fun _ _ _ h => h) (Or.inl ⟨by rfl, ?_⟩) (by assumption) ?_
    rotate_left
    focus ((intro w hSw; (try dsimp only at hSw); go_simp) <;> (with_reducible rfl))
    try simp only [Act.put, List.setIfInBounds_toArray, List.set_cons_zero, List.set_cons_succ]
    refine wpAnyH_done (by kernel_rfl) ?_ _
    refine NoPanic.normal ?_
    obtain ⟨W1, hW1⟩ : ∃ W1, X.drew = W1 := ⟨_, rfl⟩
    rw [hW1] at hHeld ⊢
    clear hW1 hQ
    obtain ⟨v0, v1, v2, v3, v4, v5, v6, v7, v8, v9⟩ := hHeld.vt.at
    obtain ⟨d0, d1⟩ := vcells2 hHeld.vb
    have g0 := hHeld.vb.free 0
    have g1 := hHeld.vb.free 1
    go_wp2_with fail
    exact bodyPost_ret (v_result (vstore2 hHeld.vb _ _) rfl _ rfl) rfl ⟨rfl, (hHeld.out hne _ _).1, (hHeld.out hne _ _).2⟩
  · cases b
    · obtain ⟨rfl, rfl, rfl⟩ := HNO.out rfl
      clear HNO HYES HCUT
      go_enter Tryd.func31, Tryd.ntmps31
      go_upto_region 1 with fail
      obtain ⟨X, hX⟩ : ∃ X, W.alloc (.cells #[.int .i64 0, .int .i64 0] 55) = X := ⟨_, rfl⟩
      rw [hX] at hQ ⊢
      clear hX h hV
      refine wp_region_noPanic ?_
      refine wp_region_held_drew (S := fun wx => QM W wx B p q t n) (by kernel_rfl) ?_ (fun hHeld => ?_)
      focus ((try dsimp only); (first | (with_reducible exact hQ.drew) | (with_reducible exact hQ) | (with_reducible assumption) | exact QM.below hHeld hb))
      try simp only [Act.put, List.setIfInBounds_toArray, List.set_cons_zero, List.set_cons_succ]
      refine wpAnyH_take (i := 0) (oi := { dst := some 6, op := Go.Op.move (Go.Operand.tmp 0), type := 89, pos := "target.go:157", after := #[], guard := none }) (v := ?_) rfl (by kernel_rfl) (by kernel_rfl) (by kernel_rfl) (fun _ _ _ h => h) (Or.inl ⟨by rfl, ?_⟩) (by assumption) ?_
      rotate_left
      focus ((intro w hSw; (try dsimp only at hSw); go_simp) <;> (with_reducible rfl))
      try simp only [Act.put, List.setIfInBounds_toArray, List.set_cons_zero, List.set_cons_succ]
      refine wpAnyH_take (i := 1) (oi := { dst := some 7, op := Go.Op.nilCheck (Go.Operand.tmp 6), type := 0, pos := "target.go:157", after := #[{ on := 0, ground := Go.Ground.data }], guard := none }) (v := ?_) rfl (by kernel_rfl) (by kernel_rfl) (by kernel_rfl) (fun _ _ _ h => h) (Or.inl ⟨by rfl, ?_⟩) (by assumption) ?_
      rotate_left
      focus ((intro w hSw; (try dsimp only at hSw); go_simp) <;> (with_reducible rfl))
      try simp only [Act.put, List.setIfInBounds_toArray, List.set_cons_zero, List.set_cons_succ]
      refine wpAnyH_take (i := 2) (oi := { dst := some 8, op := Go.Op.fieldAddr 60 (Go.Operand.tmp 7) 1, type := 0, pos := "target.go:157", after := #[{ on := 1, ground := Go.Ground.data }], guard := none }) (v := ?_) rfl (by kernel_rfl) (by kernel_rfl) (by kernel_rfl) (fun _ _ _ h => h) (Or.inl ⟨by rfl, ?_⟩) (by assumption) ?_
      rotate_left
      focus ((intro w hSw; (try dsimp only at hSw); go_simp) <;> (with_reducible rfl))
      try simp only [Act.put, List.setIfInBounds_toArray, List.set_cons_zero, List.set_cons_succ]
      refine wpAnyH_take (i := 3) (oi := { dst := some 9, op := Go.Op.load 9 (Go.Operand.tmp 8), type := 9, pos := "target.go:157", after := #[{ on := 2, ground := Go.Ground.data }], guard := none }) (v := ?_) rfl (by kernel_rfl) (by kernel_rfl) (by kernel_rfl) (fun _ _ _ h => h) (Or.inl ⟨by rfl, ?_⟩) (by assumption) ?_
      rotate_left
      focus ((intro w hSw; have hSw : QM W w B p q t n := hSw; obtain ⟨c0, c1, c2, c3⟩ := hSw.rd.cells; go_simp) <;> (with_reducible rfl))
      try simp only [Act.put, List.setIfInBounds_toArray, List.set_cons_zero, List.set_cons_succ]
      refine wpAnyH_ready (rs := [4]) (by kernel_rfl) (by simp) ?_
      refine AllReadyH.cons (o := { dst := some 10, op := Go.Op.call { callee := Go.Callee.value (Go.Operand.func 52), args := #[Go.Operand.tmp 9, Go.Operand.const (Go.Value.string { data := #[47] })], argTypes := #[9, 9] }, type := 4, pos := "target.go:157", after := #[{ on := 3, ground := Go.Ground.data }], guard := none }) rfl (fun K hK => ?_) AllReadyH.nil
      go_simp
      (go_at_call 52; refine (HP.out _).mono ?_; rintro e w' ⟨rfl, rfl⟩)
      first | (go_wp2_with fail) | skip
      refine hK.out _ _ ?_ (fun hNew => ?_)
      focus ((try dsimp only); (first | (with_reducible exact hQ.drew) | (with_reducible exact hQ) | (with_reducible assumption) | exact QM.below hHeld hb))
      clear hK K hHeld
      have hHeld := hNew
      clear hNew
      try simp only [Act.put, List.setIfInBounds_toArray, List.set_cons_zero, List.set_cons_succ]
      refine wpAnyH_take (i := 5) (oi := { dst := some 11, op := Go.Op.unOp Go.UnOp.not 4 (Go.Operand.tmp 10), type := 4, pos := "target.go:157", after := #[{ on := 4, ground := Go.Ground.data }], guard := none }) (v := ?_) rfl (by kernel_rfl) (by kernel_rfl) (by kernel_rfl) (fun _ _ _ h => h) (Or.inl ⟨by rfl, ?_⟩) (by assumption) ?_
      rotate_left
      focus ((intro w hSw; (try dsimp only at hSw); go_simp) <;> (with_reducible rfl))
      try simp only [Act.put, List.setIfInBounds_toArray, List.set_cons_zero, List.set_cons_succ]
      refine wpAnyH_take (i := 6) (oi := { dst := some 12, op := Go.Op.move (Go.Operand.tmp 11), type := 4, pos := "target.go:157", after := #[{ on := 5, ground := Go.Ground.data }, { on := 4, ground := Go.Ground.chain }], guard := none }) (v := ?_) rfl (by kernel_rfl) (by kernel_rfl) (by kernel_rfl) (fun _ _ _ h => h) (Or.inl ⟨by rfl, ?_⟩) (by assumption) ?_
      rotate_left
      focus ((intro w hSw; (try dsimp only at hSw); go_simp) <;> (with_reducible rfl))
      try simp only [Act.put, List.setIfInBounds_toArray, List.set_cons_zero, List.set_cons_succ]
      refine wpAnyH_take (i := 8) (oi := { dst := some 14, op := Go.Op.move (Go.Operand.tmp 0), type := 89, pos := "target.go:157", after := #[{ on := 6, ground := Go.Ground.guard }], guard := some (6, false) }) (v := ?_) rfl (by kernel_rfl) (by kernel_rfl) (by kernel_rfl) (fun _ _ _ h => h) (Or.inl ⟨by rfl, ?_⟩) (by assumption) ?_
      rotate_left
      focus ((intro w hSw; (try dsimp only at hSw); go_simp) <;> (with_reducible rfl))
      try simp only [Act.put, List.setIfInBounds_toArray, List.set_cons_zero, List.set_cons_succ]
      refine wpAnyH_take (i := 9) (oi := { dst := some 15, op := Go.Op.nilCheck (Go.Operand.tmp 14), type := 0, pos := "target.go:157", after := #[{ on := 8, ground := Go.Ground.data }, { on := 6, ground := Go.Ground.guard }], guard := some (6, false) }) (v := ?_) rfl (by kernel_rfl) (by kernel_rfl) (by kernel_rfl) (fun _ _ _ h => h) (Or.inl ⟨by rfl, ?_⟩) (by assumption) ?_
      rotate_left
      focus ((intro w hSw; (try dsimp only at hSw); go_simp) <;> (with_reducible rfl))
      try simp only [Act.put, List.setIfInBounds_toArray, List.set_cons_zero, List.set_cons_succ]
      refine wpAnyH_take (i := 10) (oi := { dst := some 16, op := Go.Op.fieldAddr 60 (Go.Operand.tmp 15) 1, type := 0, pos := "target.go:157", after := #[{ on := 9, ground := Go.Ground.data }, { on := 6, ground := Go.Ground.guard }], guard := some (6, false) }) (v := ?_) rfl (by kernel_rfl) (by kernel_rfl) (by kernel_rfl) (fun _ _ _ h => h) (Or.inl ⟨by rfl, ?_⟩) (by assumption) ?_
      rotate_left
      focus ((intro w hSw; (try dsimp only at hSw); go_simp) <;> (with_reducible rfl))
      try simp only [Act.put, List.setIfInBounds_toArray, List.set_cons_zero, List.set_cons_succ]
      refine wpAnyH_take (i := 11) (oi := { dst := some 17, op := Go.Op.load 9 (Go.Operand.tmp 16), type := 9, pos := "target.go:157", after := #[{ on := 10, ground := Go.Ground.data }, { on := 6, ground := Go.Ground.guard }], guard := some (6, false) }) (v := ?_) rfl (by kernel_rfl) (by kernel_rfl) (by kernel_rfl) (fun _ _ _ h => h) (Or.inl ⟨by rfl, ?_⟩) (by assumption) ?_
      rotate_left
      focus ((intro w hSw; have hSw : QM W w B p q t n := hSw; obtain ⟨c0, c1, c2, c3⟩ := hSw.rd.cells; go_simp) <;> (with_reducible rfl))
      try simp only [Act.put, List.setIfInBounds_toArray, List.set_cons_zero, List.set_cons_succ]
      refine wpAnyH_ready (rs := [7]) (by kernel_rfl) (by simp) ?_
      refine AllReadyH.cons (o := { dst := some 13, op := Go.Op.call { callee := Go.Callee.value (Go.Operand.func 21), args := #[], argTypes := #[] }, type := 38, pos := "target.go:157", after := #[{ on := 6, ground := Go.Ground.chain }, { on := 6, ground := Go.Ground.guard }], guard := some (6, false) }) rfl (fun K hK => ?_) AllReadyH.nil
      go_simp
      (go_at_call 21; refine (HC.out _).mono ?_; rintro e w' ⟨rfl, hb⟩)
      first | (go_wp2_with fail) | skip
      refine hK.out _ _ ?_ (fun hNew => ?_)
      focus ((try dsimp only); (first | (with_reducible exact hQ.drew) | (with_reducible exact hQ) | (with_reducible assumption) | exact QM.below hHeld hb))
      clear hK K hHeld
      have hHeld := hNew
      clear hNew
      try simp only [Act.put, List.setIfInBounds_toArray, List.set_cons_zero, List.set_cons_succ]
      refine wpAnyH_ready (rs := [12]) (by kernel_rfl) (by simp) ?_
      refine AllReadyH.cons (o := { dst := some 18, op := Go.Op.call { callee := Go.Callee.value (Go.Operand.func 53), args := #[Go.Operand.tmp 13, Go.Operand.tmp 17], argTypes := #[38, 9] }, type := 4, pos := "target.go:157", after := #[{ on := 7, ground := Go.Ground.data }, { on := 11, ground := Go.Ground.data }, { on := 7, ground := Go.Ground.chain }, { on := 6, ground := Go.Ground.guard }], guard := some (6, false) }) rfl (fun K hK => ?_) AllReadyH.nil
      go_simp
      (go_at_call 53; refine (HA.out _).mono ?_; rintro e w' ⟨rfl, hb⟩)
      first | (go_wp2_with fail) | skip
      refine hK.out _ _ ?_ (fun hNew => ?_)
      focus ((try dsimp only); (first | (with_reducible exact hQ.drew) | (with_reducible exact hQ) | (with_reducible assumption) | exact QM.below hHeld hb))
      clear hK K hHeld
      have hHeld := hNew
      clear hNew
      try simp only [Act.put, List.setIfInBounds_toArray, List.set_cons_zero, List.set_cons_succ]
      refine wpAnyH_take (i := 13) (oi := { dst := some 19, op := Go.Op.unOp Go.UnOp.not 4 (Go.Operand.tmp 18), type := 4, pos := "target.go:157", after := #[{ on := 12, ground := Go.Ground.data }, { on := 6, ground := Go.Ground.guard }], guard := some (6, false) }) (v := ?_) rfl (by kernel_rfl) (by kernel_rfl) (by kernel_rfl) (fun _ _ _ h => h) (Or.inl ⟨by rfl, ?_⟩) (by assumption) ?_
      rotate_left
      focus ((intro w hSw; (try dsimp only at hSw); go_simp) <;> (with_reducible rfl))
      try simp only [Act.put, List.setIfInBounds_toArray, List.set_cons_zero, List.set_cons_succ]
      refine wpAnyH_take (i := 14) (oi := { dst := some 20, op := Go.Op.pick (Go.Operand.tmp 12) (Go.Operand.const (Go.Value.bool true)) (Go.Operand.tmp 19), type := 4, pos := "target.go:157", after := #[{ on := 6, ground := Go.Ground.data }, { on := 13, ground := Go.Ground.data }], guard := none }) (v := ?_) rfl (by kernel_rfl) (by kernel_rfl) (by kernel_rfl) (fun _ _ _ h => h) (Or.inl ⟨by rfl, ?_⟩) (by assumption) ?_
      rotate_left
      focus ((intro w hSw; (try dsimp only at hSw); go_simp) <;> (with_reducible rfl))
      try simp only [Act.put, List.setIfInBounds_toArray, List.set_cons_zero, List.set_cons_succ]
      refine wpAnyH_done (by kernel_rfl) ?_ _
      refine NoPanic.normal ?_
      obtain ⟨v0, v1, v2, v3, v4, v5, v6, v7, v8, v9⟩ := hHeld.vt.at
      obtain ⟨d0, d1⟩ := vcells2 hHeld.vb
      have g0 := hHeld.vb.free 0
      have g1 := hHeld.vb.free 1
      go_wp2_with fail
      exact bodyPost_ret (v_result (vstore2 hHeld.vb _ _) rfl _ rfl) rfl ⟨rfl, (hHeld.out hne _ _).1, (hHeld.out hne _ _).2⟩
    · obtain ⟨rfl, rfl, rfl⟩ := HYES.out rfl
      clear HNO HYES
      go_enter Tryd.func31, Tryd.ntmps31
      go_upto_region 1 with fail
      obtain ⟨X, hX⟩ : ∃ X, W.alloc (.cells #[.int .i64 0, .int .i64 0] 55) = X := ⟨_, rfl⟩
      rw [hX] at hQ ⊢
      clear hX h hV
      refine wp_region_noPanic ?_
      refine wp_region_held_drew (S := fun wx => QM W wx B p q t n) (by kernel_rfl) ?_ (fun hHeld => ?_)
      focus ((try dsimp only); (first | (with_reducible exact hQ.drew) | (with_reducible exact hQ) | (with_reducible assumption) | exact QM.below hHeld hb))
      try simp only [Act.put, List.setIfInBounds_toArray, List.set_cons_zero, List.set_cons_succ]
      refine wpAnyH_take (i := 0) (oi := { dst := some 6, op := Go.Op.move (Go.Operand.tmp 0), type := 89, pos := "target.go:157", after := #[], guard := none }) (v := ?_) rfl (by kernel_rfl) (by kernel_rfl) (by kernel_rfl) (fun _ _ _ h => h) (Or.inl ⟨by rfl, ?_⟩) (by assumption) ?_
      rotate_left
      focus ((intro w hSw; (try dsimp only at hSw); go_simp) <;> (with_reducible rfl))
      try simp only [Act.put, List.setIfInBounds_toArray, List.set_cons_zero, List.set_cons_succ]
      refine wpAnyH_take (i := 1) (oi := { dst := some 7, op := Go.Op.nilCheck (Go.Operand.tmp 6), type := 0, pos := "target.go:157", after := #[{ on := 0, ground := Go.Ground.data }], guard := none }) (v := ?_) rfl (by kernel_rfl) (by kernel_rfl) (by kernel_rfl) (fun _ _ _ h => h) (Or.inl ⟨by rfl, ?_⟩) (by assumption) ?_
      rotate_left
      focus ((intro w hSw; (try dsimp only at hSw); go_simp) <;> (with_reducible rfl))
      try simp only [Act.put, List.setIfInBounds_toArray, List.set_cons_zero, List.set_cons_succ]
      refine wpAnyH_take (i := 2) (oi := { dst := some 8, op := Go.Op.fieldAddr 60 (Go.Operand.tmp 7) 1, type := 0, pos := "target.go:157", after := #[{ on := 1, ground := Go.Ground.data }], guard := none }) (v := ?_) rfl (by kernel_rfl) (by kernel_rfl) (by kernel_rfl) (fun _ _ _ h => h) (Or.inl ⟨by rfl, ?_⟩) (by assumption) ?_
      rotate_left
      focus ((intro w hSw; (try dsimp only at hSw); go_simp) <;> (with_reducible rfl))
      try simp only [Act.put, List.setIfInBounds_toArray, List.set_cons_zero, List.set_cons_succ]
      refine wpAnyH_take (i := 3) (oi := { dst := some 9, op := Go.Op.load 9 (Go.Operand.tmp 8), type := 9, pos := "target.go:157", after := #[{ on := 2, ground := Go.Ground.data }], guard := none }) (v := ?_) rfl (by kernel_rfl) (by kernel_rfl) (by kernel_rfl) (fun _ _ _ h => h) (Or.inl ⟨by rfl, ?_⟩) (by assumption) ?_
      rotate_left
      focus ((intro w hSw; have hSw : QM W w B p q t n := hSw; obtain ⟨c0, c1, c2, c3⟩ := hSw.rd.cells; go_simp) <;> (with_reducible rfl))
      try simp only [Act.put, List.setIfInBounds_toArray, List.set_cons_zero, List.set_cons_succ]
      refine wpAnyH_ready (rs := [4]) (by kernel_rfl) (by simp) ?_
      refine AllReadyH.cons (o := { dst := some 10, op := Go.Op.call { callee := Go.Callee.value (Go.Operand.func 52), args := #[Go.Operand.tmp 9, Go.Operand.const (Go.Value.string { data := #[47] })], argTypes := #[9, 9] }, type := 4, pos := "target.go:157", after := #[{ on := 3, ground := Go.Ground.data }], guard := none }) rfl (fun K hK => ?_) AllReadyH.nil
      go_simp
      (go_at_call 52; refine (HP.out _).mono ?_; rintro e w' ⟨rfl, rfl⟩)
      first | (go_wp2_with fail) | skip
      refine hK.out _ _ ?_ (fun hNew => ?_)
      focus ((try dsimp only); (first | (with_reducible exact hQ.drew) | (with_reducible exact hQ) | (with_reducible assumption) | exact QM.below hHeld hb))
      clear hK K hHeld
      have hHeld := hNew
      clear hNew
      try simp only [Act.put, List.setIfInBounds_toArray, List.set_cons_zero, List.set_cons_succ]
      refine wpAnyH_take (i := 5) (oi := { dst := some 11, op := Go.Op.unOp Go.UnOp.not 4 (Go.Operand.tmp 10), type := 4, pos := "target.go:157", after := #[{ on := 4, ground := Go.Ground.data }], guard := none }) (v := ?_) rfl (by kernel_rfl) (by kernel_rfl) (by kernel_rfl) (fun _ _ _ h => h) (Or.inl ⟨by rfl, ?_⟩) (by assumption) ?_
      rotate_left
      focus ((intro w hSw; (try dsimp only at hSw); go_simp) <;> (with_reducible rfl))
      try simp only [Act.put, List.setIfInBounds_toArray, List.set_cons_zero, List.set_cons_succ]
      refine wpAnyH_take (i := 6) (oi := { dst := some 12, op := Go.Op.move (Go.Operand.tmp 11), type := 4, pos := "target.go:157", after := #[{ on := 5, ground := Go.Ground.data }, { on := 4, ground := Go.Ground.chain }], guard := none }) (v := ?_) rfl (by kernel_rfl) (by kernel_rfl) (by kernel_rfl) (fun _ _ _ h => h) (Or.inl ⟨by rfl, ?_⟩) (by assumption) ?_
      rotate_left
      focus ((intro w hSw; (try dsimp only at hSw); go_simp) <;> (with_reducible rfl))
      try simp only [Act.put, List.setIfInBounds_toArray, List.set_cons_zero, List.set_cons_succ]
      refine wpAnyH_take (i := 8) (oi := { dst := some 14, op := Go.Op.move (Go.Operand.tmp 0), type := 89, pos := "target.go:157", after := #[{ on := 6, ground := Go.Ground.guard }], guard := some (6, false) }) (v := ?_) rfl (by kernel_rfl) (by kernel_rfl) (by kernel_rfl) (fun _ _ _ h => h) (Or.inl ⟨by rfl, ?_⟩) (by assumption) ?_
      rotate_left
      focus ((intro w hSw; (try dsimp only at hSw); go_simp) <;> (with_reducible rfl))
      try simp only [Act.put, List.setIfInBounds_toArray, List.set_cons_zero, List.set_cons_succ]
      refine wpAnyH_take (i := 9) (oi := { dst := some 15, op := Go.Op.nilCheck (Go.Operand.tmp 14), type := 0, pos := "target.go:157", after := #[{ on := 8, ground := Go.Ground.data }, { on := 6, ground := Go.Ground.guard }], guard := some (6, false) }) (v := ?_) rfl (by kernel_rfl) (by kernel_rfl) (by kernel_rfl) (fun _ _ _ h => h) (Or.inl ⟨by rfl, ?_⟩) (by assumption) ?_
      rotate_left
      focus ((intro w hSw; (try dsimp only at hSw); go_simp) <;> (with_reducible rfl))
      try simp only [Act.put, List.setIfInBounds_toArray, List.set_cons_zero, List.set_cons_succ]
      refine wpAnyH_take (i := 10) (oi := { dst := some 16, op := Go.Op.fieldAddr 60 (Go.Operand.tmp 15) 1, type := 0, pos := "target.go:157", after := #[{ on := 9, ground := Go.Ground.data }, { on := 6, ground := Go.Ground.guard }], guard := some (6, false) }) (v := ?_) rfl (by kernel_rfl) (by kernel_rfl) (by kernel_rfl) (fun _ _ _ h => h) (Or.inl ⟨by rfl, ?_⟩) (by assumption) ?_
      rotate_left
      focus ((intro w hSw; (try dsimp only at hSw); go_simp) <;> (with_reducible rfl))
      try simp only [Act.put, List.setIfInBounds_toArray, List.set_cons_zero, List.set_cons_succ]
      refine wpAnyH_take (i := 11) (oi := { dst := some 17, op := Go.Op.load 9 (Go.Operand.tmp 16), type := 9, pos := "target.go:157", after := #[{ on := 10, ground := Go.Ground.data }, { on := 6, ground := Go.Ground.guard }], guard := some (6, false) }) (v := ?_) rfl (by kernel_rfl) (by kernel_rfl) (by kernel_rfl) (fun _ _ _ h => h) (Or.inl ⟨by rfl, ?_⟩) (by assumption) ?_
      rotate_left
      focus ((intro w hSw; have hSw : QM W w B p q t n := hSw; obtain ⟨c0, c1, c2, c3⟩ := hSw.rd.cells; go_simp) <;> (with_reducible rfl))
      try simp only [Act.put, List.setIfInBounds_toArray, List.set_cons_zero, List.set_cons_succ]
      refine wpAnyH_ready (rs := [7]) (by kernel_rfl) (by simp) ?_
      refine AllReadyH.cons (o := { dst := some 13, op := Go.Op.call { callee := Go.Callee.value (Go.Operand.func 21), args := #[], argTypes := #[] }, type := 38, pos := "target.go:157", after := #[{ on := 6, ground := Go.Ground.chain }, { on := 6, ground := Go.Ground.guard }], guard := some (6, false) }) rfl (fun K hK => ?_) AllReadyH.nil
      go_simp
      (go_at_call 21; refine (HC.out _).mono ?_; rintro e w' ⟨rfl, hb⟩)
      first | (go_wp2_with fail) | skip
      refine hK.out _ _ ?_ (fun hNew => ?_)
      focus ((try dsimp only); (first | (with_reducible exact hQ.drew) | (with_reducible exact hQ) | (with_reducible assumption) | exact QM.below hHeld hb))
      clear hK K hHeld
      have hHeld := hNew
      clear hNew
      try simp only [Act.put, List.setIfInBounds_toArray, List.set_cons_zero, List.set_cons_succ]
      refine wpAnyH_ready (rs := [12]) (by kernel_rfl) (by simp) ?_
      refine AllReadyH.cons (o := { dst := some 18, op := Go.Op.call { callee := Go.Callee.value (Go.Operand.func 53), args := #[Go.Operand.tmp 13, Go.Operand.tmp 17], argTypes := #[38, 9] }, type := 4, pos := "target.go:157", after := #[{ on := 7, ground := Go.Ground.data }, { on := 11, ground := Go.Ground.data }, { on := 7, ground := Go.Ground.chain }, { on := 6, ground := Go.Ground.guard }], guard := some (6, false) }) rfl (fun K hK => ?_) AllReadyH.nil
      go_simp
      (go_at_call 53; refine (HA.out _).mono ?_; rintro e w' ⟨rfl, hb⟩)
      first | (go_wp2_with fail) | skip
      refine hK.out _ _ ?_ (fun hNew => ?_)
      focus ((try dsimp only); (first | (with_reducible exact hQ.drew) | (with_reducible exact hQ) | (with_reducible assumption) | exact QM.below hHeld hb))
      clear hK K hHeld
      have hHeld := hNew
      clear hNew
      try simp only [Act.put, List.setIfInBounds_toArray, List.set_cons_zero, List.set_cons_succ]
      refine wpAnyH_take (i := 13) (oi := { dst := some 19, op := Go.Op.unOp Go.UnOp.not 4 (Go.Operand.tmp 18), type := 4, pos := "target.go:157", after := #[{ on := 12, ground := Go.Ground.data }, { on := 6, ground := Go.Ground.guard }], guard := some (6, false) }) (v := ?_) rfl (by kernel_rfl) (by kernel_rfl) (by kernel_rfl) (fun _ _ _ h => h) (Or.inl ⟨by rfl, ?_⟩) (by assumption) ?_
      rotate_left
      focus ((intro w hSw; (try dsimp only at hSw); go_simp) <;> (with_reducible rfl))
      try simp only [Act.put, List.setIfInBounds_toArray, List.set_cons_zero, List.set_cons_succ]
      refine wpAnyH_take (i := 14) (oi := { dst := some 20, op := Go.Op.pick (Go.Operand.tmp 12) (Go.Operand.const (Go.Value.bool true)) (Go.Operand.tmp 19), type := 4, pos := "target.go:157", after := #[{ on := 6, ground := Go.Ground.data }, { on := 13, ground := Go.Ground.data }], guard := none }) (v := ?_) rfl (by kernel_rfl) (by kernel_rfl) (by kernel_rfl) (fun _ _ _ h => h) (Or.inl ⟨by rfl, ?_⟩) (by assumption) ?_
      rotate_left
      focus ((intro w hSw; (try dsimp only at hSw); go_simp) <;> (with_reducible rfl))
      try simp only [Act.put, List.setIfInBounds_toArray, List.set_cons_zero, List.set_cons_succ]
      refine wpAnyH_done (by kernel_rfl) ?_ _
      refine NoPanic.normal ?_
      clear hQ
      obtain ⟨W1, hW1⟩ : ∃ W1, Hid (W1 = w') := ⟨_, Lib.hid rfl⟩
      rw [← hW1.out] at hHeld ⊢
      have hQ := hHeld
      obtain ⟨c0, c1, c2, c3⟩ := hQ.rd.cells
      go_wp2_with fail
      refine (HCUT.out _).mono ?_
      rintro e w2 ⟨⟨g, rfl⟩, hb2⟩
      have hQ2 := hQ.below hb2
      clear hb2
      go_wp2_with fail
      refine (clone_any x (by omega) _).mono ?_
      rintro e w3 ⟨rfl, hb3⟩
      have hQ3 := hQ2.below hb3
      clear hb3
      go_wp2_with fail
      refine (clone_any y (by omega) _).mono ?_
      rintro e w4 ⟨rfl, hb4⟩
      have hQ4 := hQ3.below hb4
      clear hb4
      obtain ⟨f0, f1⟩ := hQ4.rd.frees
      obtain ⟨c40, c41, c42, c43⟩ := hQ4.rd.cells
      clear c0 c1 c2 c3 hQ hHeld hQ2 hQ3
      go_upto_region 5 with fail
      have hQ5 := hQ4.place hne x y
      obtain ⟨W5, hW5⟩ : ∃ W5, (w4.setCell ⟨B, 0, none⟩ (.string ⟨x.toArray⟩)).setCell ⟨B, 1, none⟩ (.string ⟨y.toArray⟩) = W5 := ⟨_, rfl⟩
      rw [hW5] at hQ5 ⊢
      clear hW5 hQ4 c40 c41 c42 c43 f0 f1
      obtain ⟨v0, v1, v2, v3, v4, v5, v6, v7, v8, v9⟩ := hQ5.vt.at
      obtain ⟨d0, d1⟩ := vcells2 hQ5.vb
      have g0 := hQ5.vb.free 0
      have g1 := hQ5.vb.free 1
      go_wp2_with fail
      exact bodyPost_ret (v_result (vstore2 hQ5.vb _ _) rfl _ rfl) rfl ⟨rfl, (hQ5.out hne _ _).1, (hQ5.out hne _ _).2⟩
end Go.Proofs.YtjinedeelkdgiaaDoor
namespace Go.Proofs.YtjinedeelkdgiaaDoor
open Go.RowKit
def decS (p : List UInt8) : Nat × List UInt8 := match decL p 0 with
  | .error _ => (3, p)
  | .ok t => if safeB t then (0, t) else (3, p)
def clnS (p : List UInt8) : Nat × List UInt8 := match cleanR p with
  | .inl _ => (4, p)
  | .inr t => (0, t)
set_option maxRecDepth 100000 in
set_option maxHeartbeats 4000000 in
theorem tdecode_any (p q t : List UInt8) (hp : p.length < 50000) (n : Int) (W : World) (B : Nat) (h : RdB W B p q t n) (hV : VT W) :
    Calls Tryd.prog 58 #[.pointer (some ⟨B, 0, none⟩)] W fun e w' => e = .returned (vdW (decS p).1) ∧ RdB w' B (decS p).2 q t n ∧ W.grownBy w' (some B) := by
  have hne : B ≠ W.heap.size := Nat.ne_of_lt h.lt
  have hQ := QM.new h hV
  have HD := Lib.hid fun W => decode_any p (by omega) W
  obtain ⟨⟨V, P'⟩, hD⟩ : ∃ x, decS p = x := ⟨_, rfl⟩
  rw [hD]
  unfold decS at hD
  dsimp only
  cases hd : decL p 0 with
  | error j =>
    rw [hd] at hD HD
    dsimp only at hD
    obtain ⟨rfl, rfl⟩ : 3 = V ∧ p = P' := by cases hD; exact ⟨rfl, rfl⟩
    have HV : Hid (decV (.error j) = .tuple #[.string ⟨#[]⟩, .agg #[.int .i64 3, .int .i64 (j : Int)]]) := Lib.hid rfl
    rw [HV.out] at HD
    clear hD hd
    go_enter Tryd.func58, Tryd.ntmps58
    go_upto_region 1 with fail
    obtain ⟨X, hX⟩ : ∃ X, W.alloc (.cells #[.int .i64 0, .int .i64 0] 55) = X := ⟨_, rfl⟩
    rw [hX] at hQ ⊢
    clear hX h hV
    obtain ⟨c0, c1, c2, c3⟩ := hQ.rd.cells
    go_wp2_with fail
    refine (HD.out _).mono ?_
    rintro e w2 ⟨rfl, hb2⟩
    have hQ2 := (hQ.below hb2).below (below_new w2 (.cells #[.int .i64 3, .int .i64 (j : Int)] 97))
    have hF := CBlk.new 97 w2 [.int .i64 3, .int .i64 (j : Int)]
    clear hb2 c0 c1 c2 c3 hQ
    go_upto_region 2 with fail
    obtain ⟨Y, hY⟩ : ∃ Y, w2.alloc (.cells #[.int .i64 3, .int .i64 (j : Int)] 97) = Y := ⟨_, rfl⟩
    have hF : CBlk 97 Y w2.heap.size [.int .i64 3, .int .i64 (j : Int)] := by rw [← hY]; exact hF
    rw [hY] at hQ2 ⊢
    clear hY
    obtain ⟨e0, e1⟩ := vcells2 hF
    obtain ⟨v0, v1, v2, v3, v4, v5, v6, v7, v8, v9⟩ := hQ2.vt.at
    obtain ⟨d0, d1⟩ := vcells2 hQ2.vb
    have g0 := hQ2.vb.free 0
    have g1 := hQ2.vb.free 1
    go_wp2_with fail
    exact bodyPost_ret (v_result (vstore2 hQ2.vb _ _) rfl _ rfl) rfl ⟨rfl, (hQ2.out hne _ _).1, (hQ2.out hne _ _).2⟩
  | ok s =>
    rw [hd] at hD HD
    dsimp only at hD
    have hls := dec_len p.length p 0 s (Nat.le_refl _) hd
    have HV : Hid (decV (.ok s) = .tuple #[.string ⟨s.toArray⟩, .agg #[.int .i64 0, .int .i64 0]]) := Lib.hid rfl
    rw [HV.out] at HD
    have HS := Lib.hid fun W => safe_any s (by omega) W
    cases hs : safeB s
    · rw [hs] at hD HS
      obtain ⟨rfl, rfl⟩ : 3 = V ∧ p = P' := by cases hD; exact ⟨rfl, rfl⟩
      clear hD hd hs
      go_enter Tryd.func58, Tryd.ntmps58
      go_upto_region 1 with fail
      obtain ⟨X, hX⟩ : ∃ X, W.alloc (.cells #[.int .i64 0, .int .i64 0] 55) = X := ⟨_, rfl⟩
      rw [hX] at hQ ⊢
      clear hX h hV
      obtain ⟨c0, c1, c2, c3⟩ := hQ.rd.cells
      go_wp2_with fail
      refine (HD.out _).mono ?_
      rintro e w2 ⟨rfl, hb2⟩
      have hQ2 := (hQ.below hb2).below (below_new w2 (.cells #[.int .i64 0, .int .i64 0] 97))
      have hF := CBlk.new 97 w2 [.int .i64 0, .int .i64 0]
      clear hb2 c0 c1 c2 c3 hQ
      go_upto_region 2 with fail
      obtain ⟨Y, hY⟩ : ∃ Y, w2.alloc (.cells #[.int .i64 0, .int .i64 0] 97) = Y := ⟨_, rfl⟩
      have hF : CBlk 97 Y w2.heap.size [.int .i64 0, .int .i64 0] := by rw [← hY]; exact hF
      rw [hY] at hQ2 ⊢
      clear hY
      obtain ⟨e0, e1⟩ := vcells2 hF
      go_wp2_with fail
      refine (HS.out _).mono ?_
      rintro e w3 ⟨rfl, hb3⟩
      have hQ3 := hQ2.below hb3
      clear hb3 e0 e1 hF hQ2
      obtain ⟨v0, v1, v2, v3, v4, v5, v6, v7, v8, v9⟩ := hQ3.vt.at
      obtain ⟨d0, d1⟩ := vcells2 hQ3.vb
      have g0 := hQ3.vb.free 0
      have g1 := hQ3.vb.free 1
      go_wp2_with fail
      exact bodyPost_ret (v_result (vstore2 hQ3.vb _ _) rfl _ rfl) rfl ⟨rfl, (hQ3.out hne _ _).1, (hQ3.out hne _ _).2⟩
    · rw [hs] at hD HS
      obtain ⟨rfl, rfl⟩ : 0 = V ∧ s = P' := by cases hD; exact ⟨rfl, rfl⟩
      clear hD hd hs
      go_enter Tryd.func58, Tryd.ntmps58
      go_upto_region 1 with fail
      obtain ⟨X, hX⟩ : ∃ X, W.alloc (.cells #[.int .i64 0, .int .i64 0] 55) = X := ⟨_, rfl⟩
      rw [hX] at hQ ⊢
      clear hX h hV
      obtain ⟨c0, c1, c2, c3⟩ := hQ.rd.cells
      go_wp2_with fail
      refine (HD.out _).mono ?_
      rintro e w2 ⟨rfl, hb2⟩
      have hQ2 := (hQ.below hb2).below (below_new w2 (.cells #[.int .i64 0, .int .i64 0] 97))
      have hF := CBlk.new 97 w2 [.int .i64 0, .int .i64 0]
      clear hb2 c0 c1 c2 c3 hQ
      go_upto_region 2 with fail
      obtain ⟨Y, hY⟩ : ∃ Y, w2.alloc (.cells #[.int .i64 0, .int .i64 0] 97) = Y := ⟨_, rfl⟩
      have hF : CBlk 97 Y w2.heap.size [.int .i64 0, .int .i64 0] := by rw [← hY]; exact hF
      rw [hY] at hQ2 ⊢
      clear hY
      obtain ⟨e0, e1⟩ := vcells2 hF
      go_wp2_with fail
      refine (HS.out _).mono ?_
      rintro e w3 ⟨rfl, hb3⟩
      have hQ3 := hQ2.below hb3
      clear hb3 e0 e1 hF hQ2
      obtain ⟨c0, c1, c2, c3⟩ := hQ3.rd.cells
      obtain ⟨f0, f1⟩ := hQ3.rd.frees
      go_upto_region 5 with fail
      have hQ4 := hQ3.path hne s
      obtain ⟨Z, hZ⟩ : ∃ Z, w3.setCell ⟨B, 0, none⟩ (.string ⟨s.toArray⟩) = Z := ⟨_, rfl⟩
      rw [hZ] at hQ4 ⊢
      clear hZ hQ3 c0 c1 c2 c3 f0 f1
      obtain ⟨v0, v1, v2, v3, v4, v5, v6, v7, v8, v9⟩ := hQ4.vt.at
      obtain ⟨d0, d1⟩ := vcells2 hQ4.vb
      have g0 := hQ4.vb.free 0
      have g1 := hQ4.vb.free 1
      go_wp2_with fail
      exact bodyPost_ret (v_result (vstore2 hQ4.vb _ _) rfl _ rfl) rfl ⟨rfl, (hQ4.out hne _ _).1, (hQ4.out hne _ _).2⟩
set_option maxRecDepth 100000 in
set_option maxHeartbeats 4000000 in
theorem tclean_any (p q t : List UInt8) (hp : p.length < 40000) (n : Int) (W : World) (B : Nat) (h : RdB W B p q t n) (hV : VT W) :
    Calls Tryd.prog 59 #[.pointer (some ⟨B, 0, none⟩)] W fun e w' => e = .returned (vdW (clnS p).1) ∧ RdB w' B (clnS p).2 q t n ∧ W.grownBy w' (some B) := by
  have hne : B ≠ W.heap.size := Nat.ne_of_lt h.lt
  have hQ := QM.new h hV
  have HD := Lib.hid fun W => clean_any p (by omega) W
  obtain ⟨⟨V, P'⟩, hD⟩ : ∃ x, clnS p = x := ⟨_, rfl⟩
  rw [hD]
  unfold clnS at hD
  dsimp only
  cases hd : cleanR p with
  | inl j =>
    have hj : j ≠ 0 := by
      intro e
      subst e
      unfold cleanR at hd
      split at hd
      · unfold endC at hd
        split at hd
        · cases hd
        · cases hd
      · cases hd
    rw [hd] at hD HD
    dsimp only at hD
    obtain ⟨rfl, rfl⟩ : 4 = V ∧ p = P' := by cases hD; exact ⟨rfl, rfl⟩
    have HV : Hid (strR (.inl j) = .tuple #[.string ⟨#[]⟩, .int .i64 (j : Int)]) := Lib.hid rfl
    rw [HV.out] at HD
    have e2 : ((j : Int) != 0) = true := by rw [bne_iff_ne]; omega
    clear hD hd hj
    go_enter Tryd.func59, Tryd.ntmps59
    go_upto_region 1 with fail
    obtain ⟨X, hX⟩ : ∃ X, W.alloc (.cells #[.int .i64 0, .int .i64 0] 55) = X := ⟨_, rfl⟩
    rw [hX] at hQ ⊢
    clear hX h hV
    obtain ⟨c0, c1, c2, c3⟩ := hQ.rd.cells
    go_wp2_with fail
    refine (HD.out _).mono ?_
    rintro e w3 ⟨rfl, hb3⟩
    have hQ3 := hQ.below hb3
    clear hb3 hQ c0 c1 c2 c3
    obtain ⟨v0, v1, v2, v3, v4, v5, v6, v7, v8, v9⟩ := hQ3.vt.at
    obtain ⟨d0, d1⟩ := vcells2 hQ3.vb
    have g0 := hQ3.vb.free 0
    have g1 := hQ3.vb.free 1
    go_wp2_with fail
    exact bodyPost_ret (v_result (vstore2 hQ3.vb _ _) rfl _ rfl) rfl ⟨rfl, (hQ3.out hne _ _).1, (hQ3.out hne _ _).2⟩
  | inr s =>
    rw [hd] at hD HD
    dsimp only at hD
    obtain ⟨rfl, rfl⟩ : 0 = V ∧ s = P' := by cases hD; exact ⟨rfl, rfl⟩
    have HV : Hid (strR (.inr s) = .tuple #[.string ⟨s.toArray⟩, .int .i64 0]) := Lib.hid rfl
    rw [HV.out] at HD
    clear hD hd
    go_enter Tryd.func59, Tryd.ntmps59
    go_upto_region 1 with fail
    obtain ⟨X, hX⟩ : ∃ X, W.alloc (.cells #[.int .i64 0, .int .i64 0] 55) = X := ⟨_, rfl⟩
    rw [hX] at hQ ⊢
    clear hX h hV
    obtain ⟨c0, c1, c2, c3⟩ := hQ.rd.cells
    go_wp2_with fail
    refine (HD.out _).mono ?_
    rintro e w3 ⟨rfl, hb3⟩
    have hQ3 := hQ.below hb3
    clear hb3 hQ c0 c1 c2 c3
    obtain ⟨c0, c1, c2, c3⟩ := hQ3.rd.cells
    obtain ⟨f0, f1⟩ := hQ3.rd.frees
    go_upto_region 5 with fail
    have hQ4 := hQ3.path hne s
    obtain ⟨Z, hZ⟩ : ∃ Z, w3.setCell ⟨B, 0, none⟩ (.string ⟨s.toArray⟩) = Z := ⟨_, rfl⟩
    rw [hZ] at hQ4 ⊢
    clear hZ hQ3 c0 c1 c2 c3 f0 f1
    obtain ⟨v0, v1, v2, v3, v4, v5, v6, v7, v8, v9⟩ := hQ4.vt.at
    obtain ⟨d0, d1⟩ := vcells2 hQ4.vb
    have g0 := hQ4.vb.free 0
    have g1 := hQ4.vb.free 1
    go_wp2_with fail
    exact bodyPost_ret (v_result (vstore2 hQ4.vb _ _) rfl _ rfl) rfl ⟨rfl, (hQ4.out hne _ _).1, (hQ4.out hne _ _).2⟩
end Go.Proofs.YtjinedeelkdgiaaDoor
