/-
  The reference's Has, Not, with, Fold, List, Count and Next for all arguments: they return what the program's functions return.
-/
import Derived.Test.YtbpnhiejmkeclaaDoorHeld
import Derived.Test.YtbpnhiejmkeclaaDoorBackLoop
import Derived.Test.YtbpnhiejmkeclaaDoorFoldFacts
import Derived.Test.YtbpnhiejmkeclaaDoorList
import Derived.IntWalk
namespace Go.Proofs.YtbpnhiejmkeclaaDoor
open Go.RowKit
attribute [local go_sem] w_0 w_1 w_2 w_3
set_option maxHeartbeats 400000 in
theorem refHas_any (a b c d : BitVec 64) (n : Nat) (hn : n < 256) (w : World) :
    Calls Tryd.prog 11 #[.agg #[.int .u64 a.toNat, .int .u64 b.toNat, .int .u64 c.toNat, .int .u64 d.toNat], .int .u8 (n : Int)] w fun e w' => e = .returned (.bool ((WSet.mk a b c d).has n)) ∧ Below w.heap.size w w' := by
  have hx := idx4 a b c d (n / 64) (by omega)
  go_enter Tryd.func11, Tryd.ntmps11
  go_wp2
  go_ret
  refine ⟨?_, by go_grown⟩
  simp [has_bit, WSet.has]
set_option maxHeartbeats 400000 in
theorem refNot_any (a b c d : BitVec 64) (w : World) :
    Calls Tryd.prog 13 #[.agg #[.int .u64 a.toNat, .int .u64 b.toNat, .int .u64 c.toNat, .int .u64 d.toNat]] w fun e w' => e = .returned (WSet.mk a b c d).not.v ∧ Below w.heap.size w w' := by
  have hs : IntKind.u64.signed = false := rfl
  have hm : IntKind.u64.max = 18446744073709551615 := rfl
  go_enter Tryd.func13, Tryd.ntmps13
  go_wp2
  go_rounds 6
  refine bodyPost_ret (v := (WSet.mk a b c d).not.v) (by simp [results, Tryd.results13, go_sem, bits_not, WSet.not]) rfl ⟨rfl, ?_⟩
  go_grown
set_option maxHeartbeats 400000 in
theorem refWith_any (a b c d : BitVec 64) (n : Nat) (hn : n < 256) (w : World) :
    Calls Tryd.prog 41 #[.agg #[.int .u64 a.toNat, .int .u64 b.toNat, .int .u64 c.toNat, .int .u64 d.toNat], .int .u8 (n : Int)] w fun e w' => e = .returned ((WSet.mk a b c d).add n).v ∧ Below w.heap.size w w' := by
  go_enter Tryd.func41, Tryd.ntmps41
  go_upto_region 1 with fail
  have h1 := (Blk.new w ⟨a, b, c, d⟩).alloc (.cells #[.int .u64 0, .int .u64 0, .int .u64 0, .int .u64 0] 24)
  have h2 := Blk.new0 (w.alloc (.cells #[.int .u64 a.toNat, .int .u64 b.toNat, .int .u64 c.toNat, .int .u64 d.toNat] 24))
  rw [World.size_alloc] at h2
  have hB : Below w.heap.size w ((w.alloc (.cells #[.int .u64 a.toNat, .int .u64 b.toNat, .int .u64 c.toNat, .int .u64 d.toNat] 24)).alloc (.cells #[.int .u64 0, .int .u64 0, .int .u64 0, .int .u64 0] 24)) := by go_grown
  obtain ⟨W, hW⟩ : ∃ W, (w.alloc (.cells #[.int .u64 a.toNat, .int .u64 b.toNat, .int .u64 c.toNat, .int .u64 d.toNat] 24)).alloc (.cells #[.int .u64 0, .int .u64 0, .int .u64 0, .int .u64 0] 24) = W := ⟨_, rfl⟩
  rw [hW] at h1 h2 hB ⊢
  clear hW
  go_cut [5] (fun p wx => p = .int .u8 (n : Int) ∧ Blk wx w.heap.size ((WSet.mk a b c d).add n) ∧ Blk wx (w.heap.size + 1) .empty ∧ Below w.heap.size w wx)
  case first =>
    have hw := h1.cell (n / 64) (by omega)
    have hf := h1.free (n / 64)
    go_wp2_with fail
    go_meet
    refine ⟨rfl, ?_, h2.other _ (by simp) _, hB.setCell (by simp) _⟩
    rw [add_word _ _ _ rfl]; exact h1.set _ (by omega) _
  case rest =>
  obtain ⟨rfl, h1, h2, hB⟩ := hcut
  obtain ⟨c0, c1, c2, c3⟩ := h1.cells
  obtain ⟨d0, d1, d2, d3⟩ := h2.cells
  obtain ⟨f0, f1, f2, f3⟩ := h2.frees
  go_wp2_with fail
  exact bodyPost_ret ((h2.store ((WSet.mk a b c d).add n)).results rfl _ rfl) rfl ⟨rfl, Blk.belowStore _ hB (by omega)⟩
/-- The set of which the reference's Fold has gone through k letters. -/
def foldTo (s : WSet) : Nat → WSet
  | 0 => s
  | k + 1 => if s.has (97 + k) || s.has (65 + k) then ((foldTo s k).add (97 + k)).add (65 + k) else foldTo s k
theorem has_foldTo (s : WSet) (b : Nat) (hb : b < 256) : ∀ k, k ≤ 26 → (foldTo s k).has b = (s.has b || ((decide (97 ≤ b ∧ b < 97 + k) && s.has (b - 32)) || (decide (65 ≤ b ∧ b < 65 + k) && s.has (b + 32))))
  | 0, _ => by
    have h1 : ¬ (97 ≤ b ∧ b < 97 + 0) := by omega
    have h2 : ¬ (65 ≤ b ∧ b < 65 + 0) := by omega
    simp [foldTo, h1, h2]
  | k + 1, hk => by
    have ih := has_foldTo s b hb k (by omega)
    have hu : (foldTo s (k + 1)).has b = ((foldTo s k).has b || (decide (b = 97 + k ∨ b = 65 + k) && (s.has (97 + k) || s.has (65 + k)))) := by
      rw [foldTo]
      split
      · rename_i h
        rw [has_add _ _ _ (by omega) hb, has_add _ _ _ (by omega) hb, h, Bool.and_true, Bool.or_assoc, ← Bool.decide_or]
      · rename_i h
        have : (s.has (97 + k) || s.has (65 + k)) = false := by simpa using h
        rw [this, Bool.and_false, Bool.or_false]
    rw [hu, ih]
    by_cases e1 : b = 97 + k
    · subst e1
      have g1 : ¬ (97 + k < 97 + k) := by omega
      have g2 : ¬ (65 ≤ 97 + k ∧ 97 + k < 65 + k) := by omega
      have g3 : 97 ≤ 97 + k ∧ 97 + k < 97 + (k + 1) := by omega
      have g4 : ¬ (65 ≤ 97 + k ∧ 97 + k < 65 + (k + 1)) := by omega
      rw [show 97 + k - 32 = 65 + k by omega]
      simp only [g1, g2, g3, g4, and_false, and_self, true_or, decide_true, decide_false, Bool.false_and, Bool.true_and, Bool.or_false]
      cases s.has (97 + k) <;> cases s.has (65 + k) <;> rfl
    · by_cases e2 : b = 65 + k
      · subst e2
        have g1 : ¬ (97 ≤ 65 + k ∧ 65 + k < 97 + k) := by omega
        have g2 : ¬ (65 + k < 65 + k) := by omega
        have g3 : ¬ (97 ≤ 65 + k ∧ 65 + k < 97 + (k + 1)) := by omega
        have g4 : 65 ≤ 65 + k ∧ 65 + k < 65 + (k + 1) := by omega
        rw [show 65 + k + 32 = 97 + k by omega]
        simp only [g1, g2, g3, g4, and_false, and_self, or_true, decide_true, decide_false, Bool.false_and, Bool.true_and, Bool.or_false, Bool.false_or]
        cases s.has (97 + k) <;> cases s.has (65 + k) <;> rfl
      · have g1 : (97 ≤ b ∧ b < 97 + (k + 1)) ↔ (97 ≤ b ∧ b < 97 + k) := by omega
        have g2 : (65 ≤ b ∧ b < 65 + (k + 1)) ↔ (65 ≤ b ∧ b < 65 + k) := by omega
        have g3 : ¬ (b = 97 + k ∨ b = 65 + k) := by omega
        simp only [g1, g2, g3, decide_false, Bool.false_and, Bool.or_false]
theorem foldTo_all (s : WSet) : foldTo s 26 = s.fold := by
  refine ext_has fun b hb => ?_
  rw [has_foldTo s b hb 26 (by omega)]
  by_cases h1 : 97 ≤ b ∧ b ≤ 122
  · rw [has_fold s b (b - 32) hb (.inl ⟨h1.1, h1.2, rfl⟩)]
    have g1 : 97 ≤ b ∧ b < 97 + 26 := by omega
    have g2 : ¬ (65 ≤ b ∧ b < 65 + 26) := by omega
    simp [g1, g2]
  · by_cases h2 : 65 ≤ b ∧ b ≤ 90
    · rw [has_fold s b (b + 32) hb (.inr (.inl ⟨h2.1, h2.2, rfl⟩))]
      have g1 : ¬ (97 ≤ b ∧ b < 97 + 26) := by omega
      have g2 : 65 ≤ b ∧ b < 65 + 26 := by omega
      simp [g1, g2]
    · rw [has_fold s b b hb (.inr (.inr ⟨by omega, rfl⟩))]
      have g1 : ¬ (97 ≤ b ∧ b < 97 + 26) := by omega
      have g2 : ¬ (65 ≤ b ∧ b < 65 + 26) := by omega
      simp [g1, g2]
set_option maxHeartbeats 1000000 in
theorem refFold_any (a b c d : BitVec 64) (w : World) :
    Calls Tryd.prog 15 #[.agg #[.int .u64 a.toNat, .int .u64 b.toNat, .int .u64 c.toNat, .int .u64 d.toNat]] w fun e w' => e = .returned (WSet.mk a b c d).fold.v ∧ Below w.heap.size w w' := by
  have HF := Lib.hid (foldTo_all ⟨a, b, c, d⟩)
  go_enter Tryd.func15, Tryd.ntmps15
  go_wp2_with fail
  go_loopw [4] (fun i wr => ∃ k : Nat, k ≤ 26 ∧ i = .int .u8 ((97 + k : Nat) : Int) ∧ Blk wr w.heap.size ⟨a, b, c, d⟩ ∧ Blk wr (w.heap.size + 1) .empty ∧ Blk wr (w.heap.size + 1 + 1) (foldTo ⟨a, b, c, d⟩ k) ∧ Below w.heap.size w wr)
    (fun i _ => 123 - (intOf i).toNat)
  case atStart =>
    refine ⟨0, by omega, rfl, ((Blk.new w ⟨a, b, c, d⟩).alloc _).alloc _, ?_, ?_, by go_grown⟩
    · have := (Blk.new0 (w.alloc (.cells #[.int .u64 a.toNat, .int .u64 b.toNat, .int .u64 c.toNat, .int .u64 d.toNat] 24))).alloc (.cells #[.int .u64 a.toNat, .int .u64 b.toNat, .int .u64 c.toNat, .int .u64 d.toNat] 24)
      simpa only [World.size_alloc] using this
    · have := Blk.new ((w.alloc (.cells #[.int .u64 a.toNat, .int .u64 b.toNat, .int .u64 c.toNat, .int .u64 d.toNat] 24)).alloc (.cells #[.int .u64 0, .int .u64 0, .int .u64 0, .int .u64 0] 24)) ⟨a, b, c, d⟩
      rw [World.size_alloc, World.size_alloc] at this
      exact this
  case round =>
    obtain ⟨k, hk, rfl, a0, a1, a2, hB⟩ := hrel
    obtain ⟨B, hBk⟩ : ∃ B, 97 + k = B := ⟨_, rfl⟩
    obtain ⟨C, hCk⟩ : ∃ C, 65 + k = C := ⟨_, rfl⟩
    rw [hBk]
    obtain ⟨t0, t1, t2, t3, hfk⟩ : ∃ t0 t1 t2 t3, Hid (foldTo ⟨a, b, c, d⟩ k = ⟨t0, t1, t2, t3⟩) := ⟨_, _, _, _, Lib.hid rfl⟩
    rw [hfk.out] at a2
    by_cases hlt : k < 26
    · have hB2 : B < 256 := by omega
      have hC2 : C < 256 := by omega
      have hle : decide ((B : Int) ≤ 122) = true := decide_eq_true (by omega)
      have hsub : IntKind.u8.wrap ((B : Int) - 32) = (C : Int) := by rw [IntKind.wrap_u8']; omega
      have hadd : IntKind.u8.wrap ((B : Int) + 1) = ((B + 1 : Nat) : Int) := by rw [IntKind.wrap_u8']; omega
      obtain ⟨v0, v1, v2, v3, hv⟩ : ∃ v0 v1 v2 v3, Hid ((WSet.mk t0 t1 t2 t3).add B = ⟨v0, v1, v2, v3⟩) := ⟨_, _, _, _, Lib.hid rfl⟩
      obtain ⟨u0, u1, u2, u3, hu⟩ : ∃ v0' v1' v2' v3', Hid ((WSet.mk v0 v1 v2 v3).add C = ⟨v0', v1', v2', v3'⟩) := ⟨_, _, _, _, Lib.hid rfl⟩
      obtain ⟨c0, c1, c2, c3⟩ := a0.cells
      have hbk : Hid (97 + k = B) := Lib.hid hBk
      cases h1 : (WSet.mk a b c d).has B
      · have h1' := Lib.hid h1
        clear h1
        have h1 := h1'.out
        go_wp2_with fail
        refine (refHas_any _ _ _ _ B hB2 _).mono ?_
        rintro x w3 ⟨rfl, hb⟩
        rw [h1'.out]
        have a0 := a0.below hb a0.lt
        have a1 := a1.below hb a1.lt
        have a2 := a2.below hb a2.lt
        have hB := hB.trans (hb.mono hB.size)
        clear hb
        clear c0 c1 c2 c3
        obtain ⟨c0, c1, c2, c3⟩ := a0.cells
        go_wp2_with fail
        refine (refHas_any _ _ _ _ C hC2 _).mono ?_
        rintro x w4 ⟨rfl, hb⟩
        have a0 := a0.below hb a0.lt
        have a1 := a1.below hb a1.lt
        have a2 := a2.below hb a2.lt
        have hB := hB.trans (hb.mono hB.size)
        clear hb
        clear c0 c1 c2 c3
        cases h2 : (WSet.mk a b c d).has C
        · go_wp2_with fail
          go_roundw
          case rel =>
            refine ⟨k + 1, by omega, by rw [show ((B : Int) + 1) = ((97 + (k + 1) : Nat) : Int) by omega], a0, a1, ?_, hB⟩
            rw [foldTo, hBk, hCk, if_neg (by simp [h1, h2]), hfk.out]
            exact a2
          case measure => simp [intOf]; omega
        · obtain ⟨c0, c1, c2, c3⟩ := a2.cells
          go_wp2_with fail
          refine (refWith_any _ _ _ _ B hB2 _).mono ?_
          rintro x w5 ⟨rfl, hb⟩
          have a0 := a0.below hb a0.lt
          have a1 := a1.below hb a1.lt
          have a2 := a2.below hb a2.lt
          have hB := hB.trans (hb.mono hB.size)
          clear hb
          rw [hv.out]
          go_wp2_with fail
          refine (refWith_any _ _ _ _ C hC2 _).mono ?_
          rintro x w6 ⟨rfl, hb⟩
          have a0 := a0.below hb a0.lt
          have a1 := a1.below hb a1.lt
          have a2 := a2.below hb a2.lt
          have hB := hB.trans (hb.mono hB.size)
          clear hb
          rw [hu.out]
          obtain ⟨f0, f1, f2, f3⟩ := a2.frees
          obtain ⟨c0, c1, c2, c3⟩ := a2.cells
          go_wp2_with fail
          go_roundw
          case rel =>
            refine ⟨k + 1, by omega, by rw [show ((B : Int) + 1) = ((97 + (k + 1) : Nat) : Int) by omega], ((((a0.other _ (by (try dsimp only); omega) _).other _ (by (try dsimp only); omega) _).other _ (by (try dsimp only); omega) _).other _ (by (try dsimp only); omega) _), ((((a1.other _ (by (try dsimp only); omega) _).other _ (by (try dsimp only); omega) _).other _ (by (try dsimp only); omega) _).other _ (by (try dsimp only); omega) _), ?_, Blk.belowStore ⟨u0, u1, u2, u3⟩ hB (by omega)⟩
            rw [foldTo, hBk, hCk, if_pos (show ((WSet.mk a b c d).has B || (WSet.mk a b c d).has C) = true by rw [h2]; simp), hfk.out, hv.out, hu.out]
            exact a2.store ⟨u0, u1, u2, u3⟩
          case measure => simp [intOf]; omega
      · have h1' := Lib.hid h1
        clear h1
        have h1 := h1'.out
        go_wp2_with fail
        refine (refHas_any _ _ _ _ B hB2 _).mono ?_
        rintro x w3 ⟨rfl, hb⟩
        rw [h1'.out]
        have a0 := a0.below hb a0.lt
        have a1 := a1.below hb a1.lt
        have a2 := a2.below hb a2.lt
        have hB := hB.trans (hb.mono hB.size)
        clear hb
        clear c0 c1 c2 c3
        obtain ⟨c0, c1, c2, c3⟩ := a2.cells
        go_wp2_with fail
        refine (refWith_any _ _ _ _ B hB2 _).mono ?_
        rintro x w5 ⟨rfl, hb⟩
        have a0 := a0.below hb a0.lt
        have a1 := a1.below hb a1.lt
        have a2 := a2.below hb a2.lt
        have hB := hB.trans (hb.mono hB.size)
        clear hb
        rw [hv.out]
        go_wp2_with fail
        refine (refWith_any _ _ _ _ C hC2 _).mono ?_
        rintro x w6 ⟨rfl, hb⟩
        have a0 := a0.below hb a0.lt
        have a1 := a1.below hb a1.lt
        have a2 := a2.below hb a2.lt
        have hB := hB.trans (hb.mono hB.size)
        clear hb
        rw [hu.out]
        obtain ⟨f0, f1, f2, f3⟩ := a2.frees
        obtain ⟨c0, c1, c2, c3⟩ := a2.cells
        go_wp2_with fail
        go_roundw
        case rel =>
          refine ⟨k + 1, by omega, by rw [show ((B : Int) + 1) = ((97 + (k + 1) : Nat) : Int) by omega], ((((a0.other _ (by (try dsimp only); omega) _).other _ (by (try dsimp only); omega) _).other _ (by (try dsimp only); omega) _).other _ (by (try dsimp only); omega) _), ((((a1.other _ (by (try dsimp only); omega) _).other _ (by (try dsimp only); omega) _).other _ (by (try dsimp only); omega) _).other _ (by (try dsimp only); omega) _), ?_, Blk.belowStore ⟨u0, u1, u2, u3⟩ hB (by omega)⟩
          rw [foldTo, hBk, hCk, if_pos (show ((WSet.mk a b c d).has B || (WSet.mk a b c d).has C) = true by rw [h1]; simp), hfk.out, hv.out, hu.out]
          exact a2.store ⟨u0, u1, u2, u3⟩
        case measure => simp [intOf]; omega
    · obtain rfl : k = 26 := by omega
      have hle : decide ((B : Int) ≤ 122) = false := decide_eq_false (by omega)
      have he : (⟨t0, t1, t2, t3⟩ : WSet) = (WSet.mk a b c d).fold := hfk.out.symm.trans HF.out
      rw [he] at a2
      clear hBk hCk he hfk
      obtain ⟨c0, c1, c2, c3⟩ := a2.cells
      obtain ⟨d0, d1, d2, d3⟩ := a1.cells
      obtain ⟨f0, f1, f2, f3⟩ := a1.frees
      go_wp2_with fail
      exact bodyPost_ret ((a1.store (WSet.mk a b c d).fold).results rfl _ rfl) rfl ⟨rfl, Blk.belowStore _ hB (by omega)⟩
end Go.Proofs.YtbpnhiejmkeclaaDoor
