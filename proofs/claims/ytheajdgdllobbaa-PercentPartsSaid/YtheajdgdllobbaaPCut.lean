/-
  The reference's Escapes and Cut for every text and number.
-/
import Derived.Test.YtheajdgdllobbaaPRest
namespace Go.Proofs.Ytheajdgdllobbaa
open Go.RowKit
attribute [local go_sem] ba_get
theorem ba_take (l : List UInt8) (i : Nat) : (ByteArray.mk l.toArray).extract 0 i = ⟨(l.take i).toArray⟩ := by
  apply ByteArray.ext
  rw [ByteArray.data_extract]
  simp [List.extract_eq_take_drop]
attribute [local go_sem] ba_take
theorem stepB_le {l : List UInt8} {k : Nat} (hk : k < l.length) : 0 < stepB (l.drop k) ∧ stepB (l.drop k) ≤ 3 ∧ k + stepB (l.drop k) ≤ l.length := by
  unfold stepB
  split
  · rename_i h
    refine ⟨by omega, by omega, ?_⟩
    apply Classical.byContradiction
    intro hn
    rw [escB_short (by omega)] at h
    cases h
  · exact ⟨by omega, by omega, by omega⟩
/-- Where a text can be cut; 'k' bounds the steps. -/
def cutF (l : List UInt8) (n : Int) : Nat → Nat → Nat
  | 0, i => i
  | k + 1, i => if i < l.length ∧ (i : Int) + (stepB (l.drop i) : Nat) ≤ n then cutF l n k (i + stepB (l.drop i)) else i
theorem cutF_stop {l : List UInt8} {n : Int} {i : Nat} (h : ¬ (i < l.length ∧ (i : Int) + (stepB (l.drop i) : Nat) ≤ n)) : ∀ k, cutF l n k i = i
  | 0 => rfl
  | _ + 1 => if_neg h
/-- What Cut returns, as a value. -/
def cutV (l : List UInt8) (n : Int) : Value := if askedN l n = 0 then .tuple #[.string ⟨(l.take (cutF l n l.length 0)).toArray⟩, .int .i64 0] else .tuple #[.string ⟨#[]⟩, .int .i64 (askedN l n : Nat)]
set_option maxHeartbeats 2000000 in
theorem refCut_any (l : List UInt8) (hl : l.length < 1000000) (n : Int) (w : World) :
    Calls Try.prog 24 #[.string ⟨l.toArray⟩, .int .i64 n] w fun e w' => e = .returned (cutV l n) ∧ Below w.heap.size w w' := by
  by_cases h0 : askedN l n = 0
  · have HA := Lib.hid h0
    obtain ⟨R, hR⟩ : ∃ R, cutF l n l.length 0 = R := ⟨_, rfl⟩
    have HR : Hid (cutV l n = .tuple #[.string ⟨(l.take R).toArray⟩, .int .i64 0]) := Lib.hid (by unfold cutV; rw [if_pos h0, hR])
    clear h0
    go_enter Try.func24, Try.ntmps24
    go_wp2_with fail
    refine (asked_any l hl n _).mono ?_
    rintro y w1 ⟨rfl, hb⟩
    rw [HA.out]
    go_wp2_with fail
    go_loopw [7] (fun i wr => ∃ j k : Nat, i = .int .i64 j ∧ j ≤ l.length ∧ Hid (l.length ≤ k + j) ∧ Hid (cutF l n k j = R) ∧ wr = w1)
      (fun i _ => l.length - (intOf i).toNat)
    case atStart => exact ⟨0, l.length, rfl, Nat.zero_le _, Lib.hid (by omega), Lib.hid hR, rfl⟩
    case round =>
      obtain ⟨j, k, rfl, hj, hk, hc, rfl⟩ := hrel
      by_cases hlt : j < l.length
      · have h1 : decide ((j : Int) < (l.length : Int)) = true := decide_eq_true (by omega)
        obtain ⟨p1, p2, p3⟩ := stepB_le hlt
        obtain ⟨s, hs⟩ : ∃ s, stepB (l.drop j) = s := ⟨_, rfl⟩
        have HS := Lib.hid hs
        rw [hs] at p1 p2 p3
        have q1 : IntKind.i64.wrap ((j : Int) + (s : Int)) = ((j + s : Nat) : Int) := (IntWalk.i64_in _ (by omega)).trans (by omega)
        by_cases hle : ((j + s : Nat) : Int) ≤ n
        · have h2 : decide ((j : Int) + (s : Int) ≤ n) = true := decide_eq_true (by omega)
          have hnext : Hid (∃ k', l.length ≤ k' + (j + s) ∧ cutF l n k' (j + s) = R) := Lib.hid (by
            have hk := hk.out
            have hc := hc.out
            cases k with
            | zero => omega
            | succ k =>
              refine ⟨k, by omega, ?_⟩
              rw [cutF, hs, if_pos ⟨hlt, by omega⟩] at hc
              exact hc)
          clear hs hle
          go_wp2_with fail
          refine (step_any l hl j hlt _).mono ?_
          rintro e w' ⟨rfl, rfl⟩
          rw [HS.out]
          go_wp2_with fail
          refine (step_any l hl j hlt _).mono ?_
          rintro e w' ⟨rfl, rfl⟩
          rw [HS.out]
          go_wp2_with fail
          go_roundw
          case rel =>
            obtain ⟨k', a1, a2⟩ := hnext.out
            exact ⟨j + s, k', by go_num, p3, Lib.hid a1, Lib.hid a2, by simp⟩
          case measure => simp [intOf]; omega
        · have h2 : decide ((j : Int) + (s : Int) ≤ n) = false := decide_eq_false (by omega)
          have hres : Hid (R = j) := Lib.hid (by rw [← hc.out]; exact cutF_stop (by rw [hs]; omega) k)
          have hj2 : (j : Int) ≤ (l.length : Int) := by omega
          clear hs hle
          go_wp2_with fail
          refine (step_any l hl j hlt _).mono ?_
          rintro e w' ⟨rfl, rfl⟩
          rw [HS.out]
          go_wp2_with fail
          go_ret2
          exact ⟨by rw [HR.out, hres.out]; rfl, hb⟩
      · have h1 : decide ((j : Int) < (l.length : Int)) = false := decide_eq_false (by omega)
        have hres : Hid (R = j) := Lib.hid (by rw [← hc.out]; exact cutF_stop (by omega) k)
        have hj2 : (j : Int) ≤ (l.length : Int) := by omega
        go_wp2_with fail
        go_ret2
        exact ⟨by rw [HR.out, hres.out]; rfl, hb⟩
  · obtain ⟨q, hq⟩ : ∃ q, askedN l n = q := ⟨_, rfl⟩
    have HR : Hid (cutV l n = .tuple #[.string ⟨#[]⟩, .int .i64 (q : Nat)]) := Lib.hid (by unfold cutV; rw [if_neg h0, hq])
    rw [hq] at h0
    have HA := Lib.hid hq
    have h1 : ((q : Int) == 0) = false := by rw [beq_eq_false_iff_ne]; omega
    clear hq
    go_enter Try.func24, Try.ntmps24
    go_wp2_with fail
    refine (asked_any l hl n _).mono ?_
    rintro y w1 ⟨rfl, hb⟩
    rw [HA.out]
    go_wp2_with fail
    go_ret2
    exact ⟨by rw [HR.out]; rfl, hb⟩
end Go.Proofs.Ytheajdgdllobbaa
