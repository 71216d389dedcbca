/-
  The program's cursor in memory; its atGap, toWord and bareWord for every line and place.
-/
import Derived.Test.YtacceiloggnekaaDoorRPAny
import Derived.BigQuiet
import Derived.Deep.QuietTactic
namespace Go.Proofs.YtacceiloggnekaaDoor
open Go.RowKit
attribute [local go_sem] ba_get
/-- A reader of the line l at k, whose line begins at f. -/
def Cur (w : World) (B : Nat) (l : List UInt8) (k : Nat) (f : Int) : Prop := CBlk 60 w B [.string ⟨l.toArray⟩, .int .i64 (k : Int), .int .i64 f]
theorem Cur.cells {w : World} {B : Nat} {l : List UInt8} {k : Nat} {f : Int} (h : Cur w B l k f) : w.cell? ⟨B, 0, none⟩ = some (.string ⟨l.toArray⟩) ∧ w.cell? ⟨B, 1, none⟩ = some (.int .i64 (k : Int)) ∧ w.cell? ⟨B, 2, none⟩ = some (.int .i64 f) := CBlk.cells3 h
theorem Cur.below {w w' : World} {B : Nat} {l : List UInt8} {k : Nat} {f : Int} (h : Cur w B l k f) (hb : Below w.heap.size w w') : Cur w' B l k f := CBlk.below h hb (CBlk.lt h)
theorem Cur.to {w : World} {B : Nat} {l : List UInt8} {k : Nat} {f : Int} (h : Cur w B l k f) (k' : Nat) : Cur (w.setCell ⟨B, 1, none⟩ (.int .i64 (k' : Int))) B l k' f := CBlk.set h 1 _
theorem grown_at (w : World) (B i : Nat) (v : Value) : w.grownBy (w.setCell ⟨B, i, none⟩ v) (some B) := grown_store w B i v
theorem Below.but {w w' : World} (h : Below w.heap.size w w') (row : Option Nat) : w.grownBy w' row := ⟨h.os, h.tape, h.output, h.size, fun k hk _ => h.block k hk⟩
/-- How many bytes stand ahead of the first blank. -/
def bN : List UInt8 → Nat
  | [] => 0
  | c :: r => if isBl c then 0 else bN r + 1
theorem bN_le : ∀ r, bN r ≤ r.length
  | [] => Nat.le_refl _
  | c :: r => by
    unfold bN
    split
    · exact Nat.zero_le _
    · simpa using bN_le r
theorem bl_in : ∀ n : Fin 256, blanksU.contains (UInt8.ofNat n.val) = isBl (UInt8.ofNat n.val) := by decide +kernel
theorem bl_has (c : UInt8) : blanksU.contains c = isBl c := by
  have := bl_in ⟨c.toNat, UInt8.toNat_lt _⟩
  simpa using this
theorem indexAny_bN : ∀ r : List UInt8, Lib.indexAny r blanksU = if bN r < r.length then (bN r : Int) else -1
  | [] => rfl
  | c :: r => by
    have ih := indexAny_bN r
    have hle := bN_le r
    unfold Lib.indexAny bN
    rw [bl_has]
    cases isBl c
    · show (if Lib.indexAny r blanksU == -1 then -1 else Lib.indexAny r blanksU + 1) = if bN r + 1 < r.length + 1 then ((bN r + 1 : Nat) : Int) else -1
      by_cases h : bN r < r.length
      · rw [if_pos h] at ih
        rw [ih, show ((bN r : Int) == -1) = false by rw [beq_eq_false_iff_ne]; omega]
        show (bN r : Int) + 1 = _
        rw [if_pos (by omega)]
        omega
      · rw [if_neg h] at ih
        rw [ih]
        show (-1 : Int) = _
        rw [if_neg (by omega)]
    · simp
theorem bareF_bN : ∀ r : List UInt8, bareF r = if (r.take (bN r)).all isBw then some (bN r) else none
  | [] => rfl
  | c :: r => by
    have ih := bareF_bN r
    unfold bareF bN
    cases isBl c
    · simp only [Bool.false_eq_true, if_false, List.take_succ_cons, List.all_cons]
      cases isBw c
      · rfl
      · simp only [if_true, Bool.true_and]
        rw [ih]
        split <;> rfl
    · rfl
/-- A text that is cut at its first blank. -/
theorem cut_blank (r : List UInt8) : r.take (bN r) = if bN r < r.length then r.take (bN r) else r := by
  split
  · rfl
  · exact List.take_of_length_le (by omega)
theorem bareV_cut {c : UInt8} {r : List UInt8} (h1 : isBl c = false) (h2 : c.toNat ≠ 35) : bareV ((c :: r).take (bN (c :: r))) = ((c :: r).take (bN (c :: r))).all isBw := by
  unfold bN
  rw [h1]
  simp only [Bool.false_eq_true, if_false, List.take_succ_cons]
  unfold bareV
  show (c.toNat != 35 && _) = _
  rw [show (c.toNat != 35) = true by rw [bne_iff_ne]; exact h2, Bool.true_and]
set_option maxRecDepth 100000 in
set_option maxHeartbeats 4000000 in
theorem bareWord_any (l : List UInt8) (hl : l.length < 1000000) (k : Nat) (f : Int) (B : Nat) (hk : k < l.length) (h1 : isBl l[k] = false) (h2 : (l[k]).toNat ≠ 35) (w : World) (hC : Cur w B l k f) :
    Calls Tryd.prog 57 #[.pointer (some ⟨B, 0, none⟩)] w fun e w' =>
      e = .returned (.tuple #[.string ⟨((l.drop k).take (bN (l.drop k))).toArray⟩, .bool (((l.drop k).take (bN (l.drop k))).all isBw)]) ∧ Cur w' B l (k + bN (l.drop k)) f ∧ w.grownBy w' (some B) := by
  have hdr := List.drop_eq_getElem_cons hk
  have hbv : bareV ((l.drop k).take (bN (l.drop k))) = ((l.drop k).take (bN (l.drop k))).all isBw := by
    rw [hdr]; exact bareV_cut h1 h2
  have hg : (ByteArray.mk l.toArray).extract k l.length = ⟨(l.drop k).toArray⟩ := by
    have := ba_cutn l k (l.length - k)
    rw [show k + (l.length - k) = l.length by omega, List.take_of_length_le (by simp)] at this
    exact this
  have hix := indexAny_bN (l.drop k)
  have hcut := cut_blank (l.drop k)
  have hTl : (l.drop k).length = l.length - k := by simp
  obtain ⟨T, hT⟩ : ∃ T, l.drop k = T := ⟨_, rfl⟩
  rw [hT] at hbv hg hix hcut hTl ⊢
  obtain ⟨n, hn⟩ : ∃ n, bN T = n := ⟨_, rfl⟩
  have hnle := bN_le T
  rw [hn] at hbv hix hcut hnle ⊢
  obtain ⟨X, hX⟩ : ∃ X, T.take n = X := ⟨_, rfl⟩
  have hXl : X.length = n := by rw [← hX, List.length_take]; omega
  rw [hX] at hbv hcut ⊢
  have HBV := Lib.hid hbv
  have HXL := Lib.hid hXl
  have HTL := Lib.hid hTl
  have hb1 : (k : Int) ≤ (l.length : Int) := by omega
  obtain ⟨c0, c1, -⟩ := hC.cells
  have f1 := CBlk.free hC 1
  have q1 : IntKind.i64.wrap ((k : Int) + (X.length : Int)) = ((k + n : Nat) : Int) := by rw [IntKind.wrap_i64]; omega
  have q1b : (k : Int) + (X.length : Int) = ((k + n : Nat) : Int) := by omega
  obtain ⟨m, hm⟩ : ∃ m, k + n = m := ⟨_, rfl⟩
  rw [hm] at q1 q1b ⊢
  have hTs : T.length < 1000000 := by omega
  have hXs : X.length < 1000000 := by omega
  by_cases hlt : n < T.length
  · rw [if_pos hlt] at hix
    have HIX := Lib.hid hix
    have hex : (ByteArray.mk T.toArray).extract 0 n = ⟨X.toArray⟩ := by
      have := ba_cutn T 0 n
      rw [List.drop_zero, Nat.zero_add, hX] at this
      exact this
    have d1 : decide ((0 : Int) ≤ (n : Int)) = true := decide_eq_true (by omega)
    have hb2 : (n : Int) ≤ (T.length : Int) := by omega
    clear hix hcut hn hT hX hdr hbv hXl hTl hm
    go_enter Tryd.func57, Tryd.ntmps57
    go_wp2_with fail
    go_region
    all_goals
      go_wp2_with fail
      refine (any_any T hTs _).mono ?_
      rintro e w1 ⟨rfl, hb⟩
      rw [HIX.out]
      have hC1 : Cur w1 B l k f := Cur.below (w := w.drew) hC hb
      have hG1 : w.grownBy w1 (some B) := (Below.but ((Below.refl _ w).drew.trans hb) _)
      obtain ⟨e0, e1, -⟩ := hC1.cells
      have g1 := CBlk.free hC1 1
      clear c0 c1 f1 hb
      go_wp2_with fail
      refine (clone_any X hXs _).mono ?_
      rintro e w2 ⟨rfl, hb⟩
      have hC2 := (hC1.to m).below hb
      have hG2 := (hG1.trans (grown_at w1 B 1 (.int .i64 (m : Int)))).trans (Below.but hb _)
      clear hb e0 e1 g1
      go_wp2_with fail
      refine (bare_eq X hXs _).mono ?_
      rintro e w3 ⟨rfl, rfl⟩
      rw [HBV.out]
      go_wp2_with fail
      go_ret2
      exact ⟨rfl, hC2, hG2⟩
  · rw [if_neg hlt] at hix
    have HIX := Lib.hid hix
    have hXT : X = T := by rw [hcut, if_neg hlt]
    subst hXT
    have d1 : decide ((0 : Int) ≤ (-1 : Int)) = false := by decide
    clear hix hcut hn hT hX hdr hbv hXl hTl hm
    go_enter Tryd.func57, Tryd.ntmps57
    go_wp2_with fail
    go_region
    all_goals
      go_wp2_with fail
      refine (any_any X hXs _).mono ?_
      rintro e w1 ⟨rfl, hb⟩
      rw [HIX.out]
      have hC1 : Cur w1 B l k f := Cur.below (w := w.drew) hC hb
      have hG1 : w.grownBy w1 (some B) := (Below.but ((Below.refl _ w).drew.trans hb) _)
      obtain ⟨e0, e1, -⟩ := hC1.cells
      have g1 := CBlk.free hC1 1
      clear c0 c1 f1 hb
      go_wp2_with fail
      refine (clone_any X hXs _).mono ?_
      rintro e w2 ⟨rfl, hb⟩
      have hC2 := (hC1.to m).below hb
      have hG2 := (hG1.trans (grown_at w1 B 1 (.int .i64 (m : Int)))).trans (Below.but hb _)
      clear hb e0 e1 g1
      go_wp2_with fail
      refine (bare_eq X hXs _).mono ?_
      rintro e w3 ⟨rfl, rfl⟩
      rw [HBV.out]
      go_wp2_with fail
      go_ret2
      exact ⟨rfl, hC2, hG2⟩
end Go.Proofs.YtacceiloggnekaaDoor
