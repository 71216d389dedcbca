/-
  The reference's Join of lines, and the kit's SameLines.
-/
import Derived.Test.YtfagjhadfonhdaaLRestF
import Derived.Deep.RegionHeld3
import Derived.Laws.Entries
namespace Go.Proofs.Ytfagjhadfonhdaa
open Go.RowKit
attribute [local go_sem] lba_get
theorem lnsC_at : ∀ (l : List Ln) (k : Nat) (hk : k < l.length), (lnsC l)[k * 2]? = some (.string ⟨(l[k]).tx.toArray⟩) ∧ (lnsC l)[k * 2 + 1]? = some (.bool (l[k]).gd)
  | f :: r, 0, _ => ⟨rfl, rfl⟩
  | f :: r, k + 1, h => by
    have := lnsC_at r k (by simpa using h)
    rw [show (k + 1) * 2 = k * 2 + 1 + 1 by omega]
    exact this
/-- The slice's first cells are those of the lines. -/
def LnsIn (w : World) (p : Option Addr) (l : List Ln) : Prop := CellsIn w p (l.length * 2) (fun j => (lnsC l).getD j (.int .i64 0))
theorem LnsIn.below {k : Nat} {w w' : World} {p : Option Addr} {l : List Ln} (h : LnsIn w p l) (hb : Below k w w') (hk : w.heap.size ≤ k) : LnsIn w' p l := CellsIn.below h hb hk
/-- Line k of the list. -/
theorem ln_cell {w w' : World} {p : Option Addr} {l : List Ln} (h : LnsIn w p l) (hb : Below w.heap.size w w') {k : Nat} (hk : k < l.length) : ∃ b off, p = some ⟨b, off, none⟩ ∧ b < w.heap.size ∧ w'.cell? ⟨b, off + k * 2, none⟩ = some (.string ⟨(l[k]).tx.toArray⟩) ∧ w'.cell? ⟨b, off + k * 2 + 1, none⟩ = some (.bool (l[k]).gd) := by
  obtain ⟨b, off, e, h1, h2⟩ := h (k * 2) (by omega)
  subst e
  have h3 := CellsIn.cell h (k * 2 + 1) (by omega)
  obtain ⟨a0, a1⟩ := lnsC_at l k hk
  dsimp only at h2 h3
  rw [List.getD_eq_getElem?_getD, a0] at h2
  rw [List.getD_eq_getElem?_getD, a1] at h3
  refine ⟨b, off, rfl, h1, ?_, ?_⟩
  · exact (hb.cell (p := ⟨b, off + k * 2, none⟩) h1).trans h2
  · rw [Nat.add_assoc]
    exact (hb.cell (p := ⟨b, off + (k * 2 + 1), none⟩) h1).trans h3
/-- The slice holds the lines. -/
def LnsAt (w : World) (v : Value) (L : List Ln) : Prop := ∃ p cap, v = .slice p L.length cap ∧ (p = none → cap = 0) ∧ LnsIn w p L
theorem LnsAt.below {k : Nat} {w w' : World} {v : Value} {L : List Ln} (h : LnsAt w v L) (hb : Below k w w') (hk : w.heap.size ≤ k) : LnsAt w' v L := by
  obtain ⟨p, cap, h1, h2, h3⟩ := h
  exact ⟨p, cap, h1, h2, h3.below hb hk⟩
theorem LnsAt.nil (w : World) : LnsAt w (.slice none 0 0) [] := ⟨none, 0, rfl, fun _ => rfl, fun j hj => absurd hj (by simp)⟩
theorem lns_of_own {w : World} {base : Nat} {e : TypeId} {v : Value} {L : List Ln} (h : w.ownsRow base e 2 v L.length (lnsC L)) : LnsAt w v L := by
  obtain ⟨p, cap, rfl, h2⟩ := cells_of_own h (lnsC_length L)
  refine ⟨p, cap, rfl, fun hp => ?_, h2⟩
  subst hp
  rcases h.2 with ⟨h3, _⟩ | ⟨g, cap, cur, h3, _⟩
  · injection h3
  · simp at h3
/-- A line that Join takes. -/
def okLn (x : Ln) : Bool := x.gd && goodB x.tx
/-- The text of the lines from here on, behind what there is, or the error. -/
def goJ : List UInt8 → List Ln → List UInt8 × Nat
  | o, [] => (o, 0)
  | o, x :: r => if okLn x = true then goJ (o ++ x.tx ++ [13, 10]) r else ([], 3)
theorem goJ_at {o : List UInt8} {l : List Ln} {k : Nat} (h : k < l.length) : goJ o (l.drop k) = if okLn l[k] = true then goJ (o ++ (l[k]).tx ++ [13, 10]) (l.drop (k + 1)) else ([], 3) := by
  rw [List.drop_eq_getElem_cons h]; rfl
def joinW (r : List UInt8 × Nat) : Value := .tuple #[.string ⟨r.1.toArray⟩, .int .i64 (r.2 : Nat)]
def LnsS (L : List Ln) : Prop := ∀ x ∈ L, x.tx.length < 1000000
set_option maxRecDepth 100000 in
set_option maxHeartbeats 4000000 in
theorem refJoin7_any (L : List Ln) (hn : L.length < 1000000) (hL : LnsS L) (p : Option Addr) (c : Nat) (w : World) (hC : LnsIn w p L) :
    Calls Try.prog 28 #[.slice p L.length c] w fun e w' => e = .returned (joinW (goJ [] L)) ∧ Below w.heap.size w w' := by
  obtain ⟨R, hR⟩ : ∃ R, goJ [] L = R := ⟨_, rfl⟩
  have H0 : Hid (goJ [] (L.drop 0) = R) := hR
  rw [hR]
  have HC := Lib.hid hC
  have HL := Lib.hid hL
  clear hC hL hR
  go_enter Try.func28, Try.ntmps28
  go_wp2_with fail
  go_loopw [4, 5] (fun o i wr => ∃ (k : Nat) (O : List UInt8), k ≤ L.length ∧ i = .int .i64 k ∧ O.length ≤ k * 1000002 ∧ o = .string ⟨O.toArray⟩ ∧ Hid (goJ O (L.drop k) = R) ∧ Below w.heap.size w wr) (fun _ i _ => L.length - (intOf i).toNat)
  case atStart => exact ⟨0, [], Nat.zero_le _, rfl, Nat.zero_le _, rfl, H0, Below.refl _ _⟩
  case round =>
    clear H0
    obtain ⟨k, O, hk, rfl, hO, rfl, hp, hB⟩ := hrel
    by_cases hlt : k < L.length
    · have h1 : decide ((k : Int) < (L.length : Int)) = true := decide_eq_true (by omega)
      have hb2 : (k : Int) < (L.length : Int) := by omega
      obtain ⟨b, off, rfl, hbl, x0, x1⟩ := ln_cell HC.out hB hlt
      have hat := goJ_at (o := O) hlt
      have hfs := HL.out _ (List.getElem_mem hlt)
      obtain ⟨⟨t, g⟩, hx⟩ : ∃ x, L[k] = x := ⟨_, rfl⟩
      rw [hx] at x0 x1 hat hfs
      dsimp only at x0 x1 hat hfs
      clear hx
      cases g
      · have hres : Hid (R = ([], 3)) := Lib.hid (by rw [← hp.out, hat]; rfl)
        clear hat
        go_wp2_with fail
        go_ret2
        exact ⟨by rw [hres.out]; rfl, hB⟩
      · obtain ⟨q, hq⟩ : ∃ q, goodB t = q := ⟨_, rfl⟩
        have HQ := Lib.hid hq
        have hok : okLn ⟨t, true⟩ = q := hq
        rw [hok] at hat
        clear hq hok
        cases q
        · have hres : Hid (R = ([], 3)) := Lib.hid (by rw [← hp.out, hat]; rfl)
          clear hat
          go_wp2_with fail
          refine (refGood_any t (by omega) _).mono ?_
          rintro e w' ⟨rfl, rfl⟩
          rw [HQ.out]
          go_wp2_with fail
          go_ret2
          exact ⟨by rw [hres.out]; rfl, hB⟩
        · have hnext : Hid (goJ (O ++ t ++ [13, 10]) (L.drop (k + 1)) = R) := Lib.hid (by rw [← hp.out, hat, if_pos rfl])
          have s1 : ∀ w, (Op.stringOp .add ⟨O.toArray⟩ ⟨t.toArray⟩).run Try.prog w = .ok (.string ⟨(O ++ t).toArray⟩) w := fun w => lstr_add O t (by omega)
          have s2 : ∀ w, (Op.stringOp .add ⟨(O ++ t).toArray⟩ ⟨#[13, 10]⟩).run Try.prog w = .ok (.string ⟨(O ++ t ++ [13, 10]).toArray⟩) w := fun w => lstr_add (O ++ t) [13, 10] (by simp; omega)
          have hO2 : (O ++ t ++ [13, 10]).length ≤ (k + 1) * 1000002 := by simp; omega
          clear hat
          go_wp2_with fail
          refine (refGood_any t (by omega) _).mono ?_
          rintro e w' ⟨rfl, rfl⟩
          rw [HQ.out]
          go_wp2_with fail
          go_roundw
          case rel => exact ⟨k + 1, O ++ t ++ [13, 10], by omega, by go_num, hO2, by simp, hnext, hB⟩
          case measure => simp [intOf]; omega
    · have h1 : decide ((k : Int) < (L.length : Int)) = false := decide_eq_false (by omega)
      obtain rfl : k = L.length := by omega
      have hres : Hid (R = (O, 0)) := Lib.hid (by rw [← hp.out, List.drop_length]; rfl)
      go_wp2_with fail
      go_ret2
      exact ⟨by rw [hres.out]; rfl, hB⟩
set_option maxRecDepth 100000 in
set_option maxHeartbeats 4000000 in
theorem sameLines_any (L : List Ln) (hn : L.length < 10000000) (v1 v2 : Value) (w : World) (h1 : LnsAt w v1 L) (h2 : LnsAt w v2 L) :
    Calls Try.prog 17 #[v1, v2] w fun e w' => e = .returned (.bool true) ∧ Below w.heap.size w w' := by
  obtain ⟨p1, c1, rfl, -, k1⟩ := h1
  obtain ⟨p2, c2, rfl, -, k2⟩ := h2
  have H1 : Hid (LnsIn w p1 L) := k1
  have H2 : Hid (LnsIn w p2 L) := k2
  clear k1 k2
  go_enter Try.func17, Try.ntmps17
  go_wp2_with fail
  go_loopw [5] (fun i wr => ∃ k : Nat, k ≤ L.length ∧ i = .int .i64 k ∧ Below w.heap.size w wr) (fun i _ => L.length - (intOf i).toNat)
  case atStart => exact ⟨0, Nat.zero_le _, rfl, Below.refl _ _⟩
  case round =>
  obtain ⟨k, hk, rfl, hB⟩ := hrel
  by_cases hlt : k < L.length
  · have d1 : decide ((k : Int) < (L.length : Int)) = true := decide_eq_true (by omega)
    have hb2 : (k : Int) < (L.length : Int) := by omega
    obtain ⟨b1, o1, rfl, l1, x0, x1⟩ := ln_cell H1.out hB hlt
    obtain ⟨b2, o2, rfl, l2, y0, y1⟩ := ln_cell H2.out hB hlt
    obtain ⟨⟨n, v⟩, hf⟩ : ∃ f, L[k] = f := ⟨_, rfl⟩
    rw [hf] at x0 x1 y0 y1
    dsimp only at x0 x1 y0 y1
    clear hf
    go_wp2_with fail
    go_region
    all_goals
      go_wp2_with fail
      go_roundw
      case rel => exact ⟨k + 1, by omega, by go_num, hB.drew⟩
      case measure => simp [intOf]; omega
  · have d1 : decide ((k : Int) < (L.length : Int)) = false := decide_eq_false (by omega)
    go_wp2_with fail
    go_ret
    exact ⟨rfl, hB⟩
end Go.Proofs.Ytfagjhadfonhdaa
