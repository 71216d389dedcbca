/-
  The loop of a decoder over bytes: take.
-/
import Derived.Test.YtbafmiejgpgamaaGreatDoorCMap
import Derived.Test.YtbafmiejgpgamaaGreatDoorCWhole
namespace Go.Proofs.YtbafmiejgpgamaaGreatDoor
open Go.RowKit
attribute [local go_sem] ba_get
/-- The decoder behind some bytes, and how many were used. -/
def runD : List UInt8 → Dec → Nat → Dec × Nat
  | [], d, n => (d, n)
  | b :: r, d, n => if 7 ≤ d.st then (d, n) else runD r (stepD d b) (n + 1)
theorem runD_at {l : List UInt8} {k : Nat} (h : k < l.length) (d : Dec) (n : Nat) : runD (l.drop k) d n = if 7 ≤ d.st then (d, n) else runD (l.drop (k + 1)) (stepD d l[k]) (n + 1) := by
  rw [List.drop_eq_getElem_cons h]; rfl
/-- The method for a state. -/
def methF (s : Nat) : Nat := match s with
  | 0 => 54
  | 1 => 55
  | 2 => 56
  | 3 => 57
  | 4 => 58
  | 5 => 59
  | _ => 60
theorem meth_any (W : World) (B base : Nat) (d : Dec) (v : Value) (h : DB W B base d v) (ok : d.Ok) (hN : NTab W) (b : UInt8) (s : Nat) (hs : d.st = s) (h6 : s ≤ 6) :
    Calls Tryz.prog (methF s) #[.pointer (some ⟨B, 0, none⟩), .int .u8 (b.toNat : Int)] W fun e w' => e = .returned (.tuple #[]) ∧ (∃ v', DB w' B base (stepD d b) v') ∧ Fr B v.ownBlock W w' := by
  unfold stepD
  rw [hs]
  match s, h6 with
  | 0, _ => exact (in0_any W B base d v h ok b).mono fun e w' ⟨h1, h2, h3⟩ => ⟨h1, ⟨v, h2⟩, Fr.of h3⟩
  | 1, _ => exact (in1_any W B base d v h ok b).mono fun e w' ⟨h1, h2, h3⟩ => ⟨h1, ⟨v, h2⟩, Fr.of h3⟩
  | 2, _ => exact in2_any W B base d v h ok hs b
  | 3, _ => exact (in3_any W B base d v h b).mono fun e w' ⟨h1, h2, h3⟩ => ⟨h1, ⟨v, h2⟩, Fr.of h3⟩
  | 4, _ => exact (in4_any W B base d v h b).mono fun e w' ⟨h1, h2, h3⟩ => ⟨h1, ⟨v, h2⟩, Fr.of h3⟩
  | 5, _ => exact (in5_any W B base d v h ok b).mono fun e w' ⟨h1, h2, h3⟩ => ⟨h1, ⟨v, h2⟩, Fr.of h3⟩
  | 6, _ => exact (in6_any W B base d v h ok hN b).mono fun e w' ⟨h1, h2, h3⟩ => ⟨h1, ⟨v, h2⟩, Fr.of h3⟩
theorem meth_enters (s : Nat) (h6 : s ≤ 6) : ∀ args w, (callFunc (methF s) args).run Tryz.prog w = .ok (.enter (methF s) args) w := by
  match s, h6 with
  | 0, _ => exact enters_of Tryz.func54 (by kernel_rfl) rfl
  | 1, _ => exact enters_of Tryz.func55 (by kernel_rfl) rfl
  | 2, _ => exact enters_of Tryz.func56 (by kernel_rfl) rfl
  | 3, _ => exact enters_of Tryz.func57 (by kernel_rfl) rfl
  | 4, _ => exact enters_of Tryz.func58 (by kernel_rfl) rfl
  | 5, _ => exact enters_of Tryz.func59 (by kernel_rfl) rfl
  | 6, _ => exact enters_of Tryz.func60 (by kernel_rfl) rfl
/-- A table lies below a base. -/
theorem NTab.at {w w' : World} {base : Nat} (h : NTab w) (h1 : 4 < base) (h2 : 2 < base) (hb : Below base w w') : NTab w' := by
  refine ⟨fun j hj => (hb.cell (p := ⟨4, j, none⟩) h1).trans (h.tz j hj), ?_⟩
  obtain ⟨x0, x1, x2, x3, y0, y1, y2, y3⟩ := h.vb
  exact ⟨x0, x1, x2, x3, (hb.cell (p := ⟨2, 0, none⟩) h2).trans y0, (hb.cell (p := ⟨2, 1, none⟩) h2).trans y1, (hb.cell (p := ⟨2, 2, none⟩) h2).trans y2, (hb.cell (p := ⟨2, 3, none⟩) h2).trans y3⟩
/-- A map's block is no block of cells. -/
theorem map_ne {W : World} {M : Nat} {es : Array MapEntry} {c : Nat} (h : W.heap[M]? = some (.map es c)) {B base : Nat} {d : Dec} {v : Value} (hd : DB W B base d v) : M ≠ B ∧ some M ≠ v.ownBlock := by
  constructor
  · rintro rfl
    have := (show W.heap[M]? = _ from hd.blk).symm.trans h
    cases this
  · obtain ⟨g, cap, cur, fz, rfl, _, hk, _⟩ := hd.row
    intro e'
    obtain rfl : M = g := by simpa [Value.ownBlock] using e'
    have := hk.symm.trans h
    cases this
theorem meths_at (s : Nat) (h6 : s ≤ 6) : ∃ i, Instr.findNow (.int .i64) (.int .i64 (s : Int)) meths.toList 0 = some (some (i, .func (.func (methF s)) #[] #[])) := by
  match s, h6 with
  | 0, _ => exact ⟨0, rfl⟩
  | 1, _ => exact ⟨1, rfl⟩
  | 2, _ => exact ⟨2, rfl⟩
  | 3, _ => exact ⟨3, rfl⟩
  | 4, _ => exact ⟨4, rfl⟩
  | 5, _ => exact ⟨5, rfl⟩
  | 6, _ => exact ⟨6, rfl⟩
set_option maxHeartbeats 8000000 in
theorem take_any (l : List UInt8) (hl : l.length < 1000000) (W : World) (B base : Nat) (d0 : Dec) (v0 : Value) (h : DB W B base d0 v0) (ok : d0.Ok) (hN : NTab W) (h1 : 4 < base) (h2 : 2 < base) :
    Calls Tryz.prog 26 #[.pointer (some ⟨B, 0, none⟩), .string ⟨l.toArray⟩] W fun e w' => e = .returned (.int .i64 ((runD l d0 0).2 : Nat)) ∧ (∃ v', DB w' B base (runD l d0 0).1 v') ∧ Below base W w' := by
  obtain ⟨R, hR⟩ : ∃ R, runD l d0 0 = R := ⟨_, rfl⟩
  rw [hR]
  have HR := Lib.hid hR
  clear hR
  go_enter Tryz.func26, Tryz.ntmps26
  go_wp2_with fail
  refine (handlers_any W).mono ?_
  rintro e w1 ⟨rfl, rfl⟩
  have hM := heap_alloc_new W (.map meths 7)
  have hD1 := h.alloc (.map meths 7)
  have hB1 : Below base W (W.alloc (.map meths 7)) := (Below.refl _ W).alloc (by have := h.le; have := h.blk.lt; omega) _
  have hN1 := hN.below ((Below.refl W.heap.size W).alloc (Nat.le_refl _) (.map meths 7))
  obtain ⟨M, hMe⟩ : ∃ M, W.heap.size = M := ⟨_, rfl⟩
  obtain ⟨V, hV⟩ : ∃ V, W.alloc (.map meths 7) = V := ⟨_, rfl⟩
  rw [hMe] at hM ⊢
  rw [hV] at hM hD1 hB1 hN1 ⊢
  clear hMe hV h hN
  go_wp2_with fail
  go_loopw [4] (fun i wr => ∃ (k : Nat) (d : Dec) (v : Value), k ≤ l.length ∧ i = .int .i64 k ∧ Hid (runD (l.drop k) d k = R) ∧ DB wr B base d v ∧ Hid d.Ok ∧ wr.heap[M]? = some (.map meths 7) ∧ Below base W wr ∧ NTab wr) (fun i _ => l.length - (intOf i).toNat)
  case atStart => exact ⟨0, d0, v0, Nat.zero_le _, rfl, Lib.hid (by rw [List.drop_zero]; exact HR.out), hD1, Lib.hid ok, hM, hB1, hN1⟩
  case round =>
    clear hM hD1 hB1 hN1 ok HR
    obtain ⟨k, d, v, hk, rfl, hr, hD, hOk, hM, hB, hN⟩ := hrel
    obtain ⟨c0, c1, c2, c3, c4, c5, c6, c7, c8⟩ := hD.cells
    by_cases hlt : k < l.length
    · have a1 : decide ((k : Int) < (l.length : Int)) = true := decide_eq_true (by omega)
      have a2 : decide (k < l.length) = true := decide_eq_true hlt
      by_cases h7 : 7 ≤ d.st
      · have h8 := hOk.out.st
        have hov : (d.st == 7 || d.st == 8) = true := by
          rcases (show d.st = 7 ∨ d.st = 8 by omega) with e | e <;> rw [e] <;> rfl
        have hres : Hid (R = (d, k)) := Lib.hid (by rw [← hr.out, runD_at hlt, if_pos h7])
        have HI := Lib.hid (isOver_any d.st wr)
        rw [hov] at HI
        clear h7 h8 hov
        go_wp2_with fail
        refine HI.out.mono ?_
        rintro e w2 ⟨rfl, rfl⟩
        go_wp2_with fail
        go_ret
        exact ⟨by rw [hres.out]; rfl, ⟨v, by rw [hres.out]; exact hD⟩, hB⟩
      · have hov : (d.st == 7 || d.st == 8) = false := by
          rw [Bool.or_eq_false_iff, beq_eq_false_iff_ne, beq_eq_false_iff_ne]; omega
        have HI := Lib.hid (isOver_any d.st wr)
        rw [hov] at HI
        have hnext : Hid (runD (l.drop (k + 1)) (stepD d l[k]) (k + 1) = R) := Lib.hid (by rw [← hr.out, runD_at hlt, if_neg h7])
        have hok2 : Hid (stepD d l[k]).Ok := Lib.hid (step_ok hOk.out (by omega) _)
        obtain ⟨i, hi⟩ := meths_at d.st (by omega)
        have hlk := look_eq wr M meths 7 (d.st : Int) _ i hM hi
        have hlk2 := look_eq wr.drew M meths 7 (d.st : Int) _ i hM hi
        have hm := Lib.hid (meth_any wr.drew B base d v hD.drew hOk.out (hN.below (Below.refl _ wr).drew) l[k] d.st rfl (by omega))
        have hen := meth_enters d.st (by omega)
        obtain ⟨F, hF⟩ : ∃ F, methF d.st = F := ⟨_, rfl⟩
        rw [hF] at hm hlk hlk2 hen
        have HEND : Hid (∀ (w5 : World) (v5 : Value), DB w5 B base (stepD d l[k]) v5 → Fr B v.ownBlock wr.drew w5 → (∃ (k' : Nat) (d : Dec) (v : Value), k' ≤ l.length ∧ Value.int .i64 ((k : Int) + 1) = .int .i64 (k' : Int) ∧ Hid (runD (l.drop k') d k' = R) ∧ DB w5 B base d v ∧ Hid d.Ok ∧ w5.heap[M]? = some (.map meths 7) ∧ Below base W w5 ∧ NTab w5) ∧ l.length - (intOf (.int .i64 ((k : Int) + 1))).toNat < l.length - (intOf (.int .i64 (k : Int))).toNat) := Lib.hid (by
          intro w5 v5 hD5 hF5
          have hne := map_ne hM hD
          have hz : base ≤ wr.heap.size := by have := hD.le; have := hD.blk.lt; omega
          have hb := (Below.refl base wr).drew.trans (hF5.below hD.le (fun k' hk' => (hD.row.lt k' hk').1) hz)
          exact ⟨⟨k + 1, stepD d l[k], v5, by omega, by go_num, hnext, hD5, hok2, (hF5.block M (Array.getElem?_eq_some_iff.1 hM).1 hne.1 hne.2).trans hM, hB.trans hb, hN.at h1 h2 hb⟩, by simp [intOf]; omega⟩)
        clear hF h7 hov hi
        have hw1 : wrap64 ((k : Int) + 1) = (k : Int) + 1 := by unfold wrap64; omega
        go_wp2_with fail
        refine HI.out.mono ?_
        rintro e w2 ⟨rfl, rfl⟩
        go_wp2_with fail
        go_region_with (go_at_fn F; refine hm.out.mono ?_; rintro e w5 ⟨rfl, ⟨v5, hD5⟩, hF5⟩)
        all_goals
          go_wp2_with fail
          exact HEND.out w5 v5 hD5 hF5
    · have a1 : decide ((k : Int) < (l.length : Int)) = false := decide_eq_false (by omega)
      have a2 : decide (k < l.length) = false := decide_eq_false hlt
      obtain rfl : k = l.length := by omega
      have hres : Hid (R = (d, l.length)) := Lib.hid (by rw [← hr.out, List.drop_length]; rfl)
      clear hr
      go_wp2_with fail
      go_ret
      exact ⟨by rw [hres.out]; rfl, ⟨v, by rw [hres.out]; exact hD⟩, hB⟩
end Go.Proofs.YtbafmiejgpgamaaGreatDoor
