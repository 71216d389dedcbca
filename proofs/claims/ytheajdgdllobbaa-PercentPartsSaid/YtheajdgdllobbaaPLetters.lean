/-
  The law text's own set of letters.
-/
import Derived.Test.YtheajdgdllobbaaPOwn
namespace Go.Proofs.Ytheajdgdllobbaa
open Go.RowKit
attribute [local go_sem] w_0 w_1 w_2 w_3
def lowTo : Nat → WSet
  | 0 => .empty
  | k + 1 => (lowTo k).add (97 + k)
def lettersW : WSet := ⟨140874927308800#64, 576460743713488896#64, 0#64, 0#64⟩
theorem lowTo_all : lowTo 26 = ⟨0#64, 576460743713488896#64, 0#64, 0#64⟩ := by decide +kernel
set_option maxHeartbeats 2000000 in
theorem letters_any (w : World) :
    Calls Try.prog 27 #[] w fun e w' => e = .returned lettersW.v ∧ Below w.heap.size w w' := by
  go_enter Try.func27, Try.ntmps27
  go_wp2_with fail
  go_loopw [2] (fun i wr => ∃ k : Nat, k ≤ 26 ∧ i = .int .i32 ((97 + k : Nat) : Int) ∧ Blk wr w.heap.size .empty ∧ Blk wr (w.heap.size + 1) (lowTo k) ∧ Below w.heap.size w wr)
    (fun i _ => 123 - (intOf i).toNat)
  case atStart =>
    refine ⟨0, by omega, rfl, (Blk.new0 w).alloc _, ?_, by go_grown⟩
    have := Blk.new0 (w.alloc (.cells #[.int .u64 0, .int .u64 0, .int .u64 0, .int .u64 0] 24))
    rw [World.size_alloc] at this
    exact this
  case round =>
    obtain ⟨k, hk, rfl, h1, h2, hB⟩ := hrel
    obtain ⟨B, hBk⟩ : ∃ B, 97 + k = B := ⟨_, rfl⟩
    rw [hBk]
    by_cases hlt : k < 26
    · have hle : decide ((B : Int) ≤ 122) = true := decide_eq_true (by omega)
      have hdiv : (B : Int) / 64 = 1 := by omega
      have hmod : ((B : Int)).tmod 64 = ((B - 64 : Nat) : Int) := by rw [Int.tmod_eq_emod_of_nonneg (by omega)]; omega
      have hmod2 : (B : Int) % 64 = ((B - 64 : Nat) : Int) := by omega
      have hw := h2.cell 1 (by omega)
      have hf := h2.free 1
      obtain ⟨s, hs⟩ : ∃ s, lowTo k = s := ⟨_, rfl⟩
      rw [hs] at h2 hw
      have hnext : Hid (lowTo (k + 1) = s.add B) := Lib.hid (by rw [lowTo, hs, hBk])
      have hB1 : Hid (B / 64 = 1 ∧ B % 64 = B - 64 ∧ B - 64 < 64) := Lib.hid ⟨by omega, by omega, by omega⟩
      clear hs
      go_wp2_with fail
      go_roundw
      case rel =>
        refine ⟨k + 1, by omega, by rw [show ((B : Int) + 1) = ((97 + (k + 1) : Nat) : Int) by omega], h1.other _ (by simp) _, ?_, hB.setCell (by simp) _⟩
        have hv := add_word s B _ rfl
        rw [hB1.out.1, hB1.out.2.1] at hv
        rw [hv, hnext.out]
        have ha : s.add B = s.set 1 (s.w 1 ||| 1#64 <<< (B - 64)) := by unfold WSet.add; rw [hB1.out.1, hB1.out.2.1]
        rw [ha]
        exact h2.set 1 (by omega) _
      case measure => simp [intOf]; omega
    · obtain rfl : k = 26 := by omega
      have hle : decide ((B : Int) ≤ 122) = false := decide_eq_false (by omega)
      rw [lowTo_all] at h2
      obtain ⟨c0, c1, c2, c3⟩ := h2.cells
      obtain ⟨e0, e1, e2, e3⟩ := h2.frees
      obtain ⟨d0, d1, d2, d3⟩ := h1.cells
      obtain ⟨f0, f1, f2, f3⟩ := h1.frees
      clear hBk
      have b1 : bits .or .u64 0 140737488355328 = 140737488355328 := by decide +kernel
      have b2 : bits .or .u64 140737488355328 137438953472 = 140874927308800 := by decide +kernel
      go_wp2_with fail
      have h1' := (h1.other (⟨w.heap.size + 1, 0, none⟩ : Addr) (by simp) (.int .u64 140737488355328)).other (⟨w.heap.size + 1, 0, none⟩ : Addr) (by simp) (.int .u64 140874927308800)
      have hB' := (hB.setCell (p := ⟨w.heap.size + 1, 0, none⟩) (by simp) (.int .u64 140737488355328)).setCell (p := ⟨w.heap.size + 1, 0, none⟩) (by simp) (.int .u64 140874927308800)
      exact bodyPost_ret ((h1'.store lettersW).results rfl _ rfl) rfl ⟨rfl, Blk.belowStore lettersW hB' (Nat.le_refl _)⟩
end Go.Proofs.Ytheajdgdllobbaa
