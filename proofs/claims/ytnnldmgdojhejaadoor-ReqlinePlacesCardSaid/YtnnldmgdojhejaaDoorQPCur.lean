/-
  The cursor of package reqline: left, pass, expect.
-/
import Derived.Test.YtnnldmgdojhejaaDoorQPLay
import Derived.Test.YtnnldmgdojhejaaDoorCBlk
import Derived.Deep.RegionWith
import Derived.Deep.DeepCutAuto
namespace Go.Proofs.YtnnldmgdojhejaaDoor
open Go.RowKit
attribute [local go_sem] ba_get
/-- Block B holds a reader of the line l at the place k, with a method and a target. -/
def RB (w : World) (B : Nat) (l : List UInt8) (k : Nat) (m t : List UInt8) : Prop := CBlk 46 w B [.string ⟨l.toArray⟩, .int .i64 (k : Int), .string ⟨m.toArray⟩, .string ⟨t.toArray⟩]
theorem RB.lt {w : World} {B : Nat} {l : List UInt8} {k : Nat} {m t : List UInt8} (h : RB w B l k m t) : B < w.heap.size := CBlk.lt h
theorem RB.cells {w : World} {B : Nat} {l : List UInt8} {k : Nat} {m t : List UInt8} (h : RB w B l k m t) : w.cell? ⟨B, 0, none⟩ = some (.string ⟨l.toArray⟩) ∧ w.cell? ⟨B, 1, none⟩ = some (.int .i64 (k : Int)) ∧ w.cell? ⟨B, 2, none⟩ = some (.string ⟨m.toArray⟩) ∧ w.cell? ⟨B, 3, none⟩ = some (.string ⟨t.toArray⟩) :=
  ⟨CBlk.cell h 0 (by simp), CBlk.cell h 1 (by simp), CBlk.cell h 2 (by simp), CBlk.cell h 3 (by simp)⟩
theorem RB.frees {w : World} {B : Nat} {l : List UInt8} {k : Nat} {m t : List UInt8} (h : RB w B l k m t) : w.frozen? ⟨B, 0, none⟩ = false ∧ w.frozen? ⟨B, 1, none⟩ = false ∧ w.frozen? ⟨B, 2, none⟩ = false ∧ w.frozen? ⟨B, 3, none⟩ = false :=
  ⟨CBlk.free h 0, CBlk.free h 1, CBlk.free h 2, CBlk.free h 3⟩
theorem RB.below {w w' : World} {B n : Nat} {l : List UInt8} {k : Nat} {m t : List UInt8} (h : RB w B l k m t) (hb : Below n w w') (hn : B < n) : RB w' B l k m t := CBlk.below h hb hn
theorem RB.drew {w : World} {B : Nat} {l : List UInt8} {k : Nat} {m t : List UInt8} (h : RB w B l k m t) : RB w.drew B l k m t := h
theorem RB.place {w : World} {B : Nat} {l : List UInt8} {k : Nat} {m t : List UInt8} (h : RB w B l k m t) (n : Nat) : RB (w.setCell ⟨B, 1, none⟩ (.int .i64 (n : Int))) B l n m t := CBlk.set h 1 _
theorem RB.method {w : World} {B : Nat} {l : List UInt8} {k : Nat} {m t : List UInt8} (h : RB w B l k m t) (x : List UInt8) : RB (w.setCell ⟨B, 2, none⟩ (.string ⟨x.toArray⟩)) B l k x t := CBlk.set h 2 _
theorem RB.target {w : World} {B : Nat} {l : List UInt8} {k : Nat} {m t : List UInt8} (h : RB w B l k m t) (x : List UInt8) : RB (w.setCell ⟨B, 3, none⟩ (.string ⟨x.toArray⟩)) B l k m x := CBlk.set h 3 _
theorem left_any (l : List UInt8) (k : Nat) (hk : k ≤ l.length) (m t : List UInt8) (W : World) (B : Nat) (h : RB W B l k m t) :
    Calls Tryd.prog 27 #[.pointer (some ⟨B, 0, none⟩)] W fun e w' => e = .returned (.string ⟨(l.drop k).toArray⟩) ∧ Below W.heap.size W w' := by
  obtain ⟨c0, c1, c2, c3⟩ := h.cells
  have g1 := qdrop l k
  have hb3 : (k : Int) ≤ (l.length : Int) := by omega
  go_enter Tryd.func27, Tryd.ntmps27
  go_wp2_with fail
  go_region
  all_goals
    go_wp2_with fail
    go_ret
    exact ⟨by first | rfl | simp, (Below.refl _ W).drew⟩
theorem pass_any (l : List UInt8) (k n : Nat) (hk : k < 100000000) (hn : n < 100000000) (m t : List UInt8) (W : World) (B : Nat) (h : RB W B l k m t) :
    Calls Tryd.prog 28 #[.pointer (some ⟨B, 0, none⟩), .int .i64 (n : Int)] W fun e w' => e = .returned (.tuple #[]) ∧ RB w' B l (k + n) m t ∧ Below B W w' := by
  obtain ⟨c0, c1, c2, c3⟩ := h.cells
  obtain ⟨f0, f1, f2, f3⟩ := h.frees
  have ww : IntKind.i64.wrap ((k : Int) + (n : Int)) = (k : Int) + (n : Int) := qwrap (by omega) (by omega)
  go_enter Tryd.func28, Tryd.ntmps28
  go_wp2_with fail
  have h1 : RB (W.setCell ⟨B, 1, none⟩ (.int .i64 ((k : Int) + (n : Int)))) B l (k + n) m t := by
    have := h.place (k + n)
    rw [show ((k + n : Nat) : Int) = (k : Int) + (n : Int) by omega] at this
    exact this
  exact bodyPost_end (v := .tuple #[]) (by simp [Go.results, Tryd.results28, go_sem]) rfl ⟨rfl, h1, (Below.refl _ W).setCell (p := ⟨B, 1, none⟩) (Nat.le_refl _) _⟩
/-- How many bytes of x a text begins with. -/
def mtN : List UInt8 → List UInt8 → Nat
  | [], _ => 0
  | c :: x, r => if Lib.hasPrefix r [c] = true then mtN x (r.drop 1) + 1 else 0
theorem mtN_le : ∀ x r, mtN x r ≤ x.length
  | [], _ => Nat.le_refl _
  | c :: x, r => by
    unfold mtN
    have := mtN_le x (r.drop 1)
    rw [List.length_cons]
    split <;> omega
theorem hp_ne {r : List UInt8} {c : UInt8} (h : Lib.hasPrefix r [c] = true) : 1 ≤ r.length := by
  cases r with
  | nil => cases h
  | cons d r => simp
theorem mtN_le2 : ∀ x r, mtN x r ≤ r.length
  | [], _ => Nat.zero_le _
  | c :: x, r => by
    unfold mtN
    have := mtN_le2 x (r.drop 1)
    rw [List.length_drop] at this
    by_cases h : Lib.hasPrefix r [c] = true
    · rw [if_pos h]
      have := hp_ne h
      omega
    · rw [if_neg h]
      exact Nat.zero_le _
theorem mtN_at {x : List UInt8} {i : Nat} (hi : i < x.length) (r : List UInt8) : mtN (x.drop i) r = if Lib.hasPrefix r [x[i]] = true then mtN (x.drop (i + 1)) (r.drop 1) + 1 else 0 := by
  rw [List.drop_eq_getElem_cons hi]; rfl
theorem one_at {x : List UInt8} {i : Nat} (hi : i < x.length) : (ByteArray.mk x.toArray).extract i (i + 1) = ⟨#[x[i]]⟩ := by
  rw [qcut]
  congr 2
  rw [List.drop_take, show i + 1 - i = 1 by omega, List.drop_eq_getElem_cons hi]
  rfl
set_option maxHeartbeats 2000000 in
theorem expect_any (l x : List UInt8) (hx : x.length < 100) (hl : l.length < 1000000) (k : Nat) (hk : k ≤ l.length) (m t : List UInt8) (W : World) (B : Nat) (h : RB W B l k m t) :
    Calls Tryd.prog 29 #[.pointer (some ⟨B, 0, none⟩), .string ⟨x.toArray⟩] W fun e w' => e = .returned (.bool (decide (mtN x (l.drop k) = x.length))) ∧ RB w' B l (k + mtN x (l.drop k)) m t ∧ Below B W w' := by
  obtain ⟨N, hN⟩ : ∃ N, mtN x (l.drop k) = N := ⟨_, rfl⟩
  have hNx : N ≤ x.length := by rw [← hN]; exact mtN_le _ _
  have hNl : k + N ≤ l.length := by
    have := mtN_le2 x (l.drop k)
    rw [hN, List.length_drop] at this
    omega
  rw [hN]
  have HN := Lib.hid hN
  clear hN
  have HL := Lib.hid fun k hk W h => left_any l k hk m t W B h
  have HP : Hid (∀ k, k < 100000000 → ∀ W, RB W B l k m t → Calls Tryd.prog 28 #[.pointer (some ⟨B, 0, none⟩), .int .i64 1] W fun e w' => e = .returned (.tuple #[]) ∧ RB w' B l (k + 1) m t ∧ Below B W w') := Lib.hid fun k hk W h => pass_any l k 1 hk (by omega) m t W B h
  go_enter Tryd.func29, Tryd.ntmps29
  go_wp2_with fail
  go_loopw [8] (fun i wr => ∃ j : Nat, j ≤ x.length ∧ k + j ≤ l.length ∧ i = .int .i64 (j : Int) ∧ Hid (j + mtN (x.drop j) (l.drop (k + j)) = N) ∧ RB wr B l (k + j) m t ∧ Below B W wr) (fun i _ => x.length - (intOf i).toNat)
  case atStart => exact ⟨0, Nat.zero_le _, hk, rfl, Lib.hid (by rw [List.drop_zero, Nat.add_zero, HN.out, Nat.zero_add]), h, Below.refl _ _⟩
  case round =>
    obtain ⟨j, hj, hjl, rfl, hp, h1, hB⟩ := hrel
    by_cases hlt : j < x.length
    · have d1 : decide ((j : Int) < (x.length : Int)) = true := decide_eq_true (by omega)
      have hb2 : (j : Int) + 1 ≤ (x.length : Int) := by omega
      have hn1 : ((j : Int) + 1).toNat = j + 1 := by omega
      have ww : IntKind.i64.wrap ((j : Int) + 1) = (j : Int) + 1 := qwrap (by omega) (by omega)
      have hat := mtN_at hlt (l.drop (k + j))
      have hone := one_at hlt
      obtain ⟨c, hc⟩ : ∃ c, x[j] = c := ⟨_, rfl⟩
      rw [hc] at hat hone
      obtain ⟨v, hv⟩ : ∃ v, Lib.hasPrefix (l.drop (k + j)) [c] = v := ⟨_, rfl⟩
      have HV := Lib.hid hv
      rw [hv] at hat
      clear hv hc
      cases v
      · have hres : Hid (N = j) := Lib.hid (by rw [← hp.out, hat]; rfl)
        clear hat
        go_wp2_with fail
        go_region_with (first
          | (go_at_call 27; refine (HL.out _ hjl _ h1.drew).mono ?_; rintro e w5 ⟨rfl, hb5⟩)
          | (go_at_call 35; refine (prefix_any _ _ _).mono ?_; rintro e w6 ⟨rfl, rfl⟩; rw [HV.out]))
        all_goals
          have h5 := h1.drew.below hb5 h1.lt
          have hB5 := hB.drew.trans (hb5.mono (Nat.le_of_lt h1.lt))
          go_wp2_with fail
          go_ret
          exact ⟨by rw [hres.out, decide_eq_false (by omega)]; rfl, by rw [hres.out]; exact h5, hB5⟩
      · have hnext : Hid (j + 1 + mtN (x.drop (j + 1)) (l.drop (k + (j + 1))) = N) := Lib.hid (by
          have := hp.out
          rw [hat, if_pos rfl, List.drop_drop] at this
          rw [← this, show k + (j + 1) = k + j + 1 by omega]
          omega)
        have hjl2 : k + (j + 1) ≤ l.length := by
          have := hp_ne HV.out
          rw [List.length_drop] at this
          omega
        clear hat
        go_wp2_with fail
        go_region_with (first
          | (go_at_call 27; refine (HL.out _ hjl _ h1.drew).mono ?_; rintro e w5 ⟨rfl, hb5⟩)
          | (go_at_call 35; refine (prefix_any _ _ _).mono ?_; rintro e w6 ⟨rfl, rfl⟩; rw [HV.out]))
        all_goals
          have h5 := h1.drew.below hb5 h1.lt
          have hB5 := hB.drew.trans (hb5.mono (Nat.le_of_lt h1.lt))
          go_wp2_with fail
          refine (HP.out (k + j) (by omega) _ h5).mono ?_
          rintro e w7 ⟨rfl, h7, hb7⟩
          have hB7 := hB5.trans hb7
          go_wp2_with fail
          go_roundw
          case rel => exact ⟨j + 1, by omega, hjl2, by go_num, hnext, h7, hB7⟩
          case measure => simp [intOf]; omega
    · have d1 : decide ((j : Int) < (x.length : Int)) = false := decide_eq_false (by omega)
      obtain rfl : j = x.length := by omega
      have hres : Hid (N = x.length) := Lib.hid (by rw [← hp.out, List.drop_length]; rfl)
      go_wp2_with fail
      go_ret
      exact ⟨by rw [hres.out, decide_eq_true rfl]; rfl, by rw [hres.out]; exact h1, hB⟩
end Go.Proofs.YtnnldmgdojhejaaDoor
