/-
  The reference's Normal and Clean, for every text shorter than 100000 bytes.
-/
import Derived.Test.YtkchhgpebleioaaDoorDRef2
namespace Go.Proofs.YtkchhgpebleioaaDoor
open Go.RowKit
theorem okL_at : ∀ (R : List (List UInt8)) (k : Nat) (hk : k < R.length), okL (R.drop k) = (!(dotB R[k] || (R[k] == [] && decide (k + 1 ≠ R.length))) && okL (R.drop (k + 1)))
  | [], k, hk => by simp at hk
  | [x], k, hk => by
    obtain rfl : k = 0 := by simpa using hk
    simp [okL]
  | x :: y :: r, 0, hk => by
    simp [okL]
  | x :: y :: r, k + 1, hk => by
    have := okL_at (y :: r) k (by simpa using hk)
    simpa using this
theorem mul_string (n : Nat) : n * 1 = n := Nat.mul_one n
set_option maxRecDepth 100000 in
set_option maxHeartbeats 4000000 in
theorem refNormal_any (p : List UInt8) (hl : p.length < 100000) (w : World) :
    Calls Tryd.prog 27 #[.string ⟨p.toArray⟩] w fun e w' => e = .returned (.bool (normB p)) ∧ Below w.heap.size w w' := by
  obtain ⟨q, hq⟩ : ∃ q, pathB p = q := ⟨_, rfl⟩
  have HQ := Lib.hid hq
  cases q
  · have HR : Hid (normB p = false) := Lib.hid (by unfold normB; rw [hq]; rfl)
    clear hq
    go_enter Tryd.func27, Tryd.ntmps27
    go_wp2_with fail
    refine (refPath_any p hl _).mono ?_
    rintro e w' ⟨rfl, rfl⟩
    rw [HQ.out]
    go_wp2_with fail
    go_ret
    exact ⟨by rw [HR.out]; rfl, Below.refl _ _⟩
  · have hp0 : 0 < p.length := by
      cases p with
      | nil => simp [pathB] at hq
      | cons c r => simp
    have HP0 := Lib.hid hp0
    clear hp0
    by_cases h1 : 128 < p.length
    · have d1 : decide ((128 : Int) < (p.length : Int)) = true := decide_eq_true (by omega)
      have d1n : decide (128 < p.length) = true := decide_eq_true h1
      have HR : Hid (normB p = false) := Lib.hid (by unfold normB; rw [hq, decide_eq_false (by omega)]; rfl)
      clear hq h1
      go_enter Tryd.func27, Tryd.ntmps27
      go_wp2_with fail
      refine (refPath_any p hl _).mono ?_
      rintro e w' ⟨rfl, rfl⟩
      rw [HQ.out]
      go_wp2_with fail
      go_ret
      exact ⟨by rw [HR.out]; rfl, Below.refl _ _⟩
    · have d1 : decide ((128 : Int) < (p.length : Int)) = false := decide_eq_false (by omega)
      have d1n : decide (128 < p.length) = false := decide_eq_false h1
      have hR : normB p = okL (piecesL p) := by unfold normB; rw [hq, decide_eq_true (by omega)]; rfl
      have hlen := pieces_len p
      have hpc := fun W => refPieces_any p HP0.out hl W
      obtain ⟨R, hRR⟩ : ∃ R, piecesL p = R := ⟨_, rfl⟩
      rw [hRR] at hpc hR hlen
      have HPC := Lib.hid hpc
      have HR := Lib.hid hR
      clear hq hRR hR hpc
      go_enter Tryd.func27, Tryd.ntmps27
      go_wp2_with fail
      refine (refPath_any p hl _).mono ?_
      rintro e w' ⟨rfl, rfl⟩
      rw [HQ.out]
      go_wp2_with fail
      refine (HPC.out _).mono ?_
      rintro e w1 ⟨v, rfl, hrow, hB⟩
      obtain ⟨pp, cc, rfl, hC⟩ := strs_of_own hrow
      have HC := Lib.hid hC
      have H0 : Hid (okL (R.drop 0) = okL R) := Lib.hid rfl
      have HB := Lib.hid hB
      clear hrow hC hB HPC
      go_wp2_with fail
      go_loopw [4] (fun i wr => ∃ k : Nat, k ≤ R.length ∧ i = .int .i64 k ∧ Hid (okL (R.drop k) = okL R) ∧ wr = w1) (fun i _ => R.length - (intOf i).toNat)
      case atStart => exact ⟨0, Nat.zero_le _, rfl, H0, rfl⟩
      case round =>
      obtain ⟨k, hk, rfl, hst, rfl⟩ := hrel
      by_cases hlt : k < R.length
      · have d2 : decide ((k : Int) < (R.length : Int)) = true := decide_eq_true (by omega)
        have hb2 : (k : Int) < (R.length : Int) := by omega
        obtain ⟨b, off, rfl, hbl, hcell⟩ := str_cell HC.out (Below.refl _ _) hlt
        have hat := okL_at R k hlt
        rw [hst.out] at hat
        obtain ⟨x, hx⟩ : ∃ x, R[k] = x := ⟨_, rfl⟩
        rw [hx] at hat hcell
        obtain ⟨n, hn⟩ : ∃ n, R.length - 1 = n := ⟨_, rfl⟩
        have q1 : IntKind.i64.wrap ((R.length : Int) - 1) = (n : Int) := by rw [IntKind.wrap_i64]; omega
        have q2 : (R.length : Int) - 1 = (n : Int) := by omega
        have q3 : decide (k + 1 ≠ R.length) = (k != n) := by
          rw [Bool.eq_iff_iff, decide_eq_true_iff, bne_iff_ne]
          omega
        have q4 : ((k : Int) != (n : Int)) = (k != n) := by
          rw [Bool.eq_iff_iff, bne_iff_ne, bne_iff_ne]
          omega
        rw [q3] at hat
        obtain ⟨d, hd⟩ : ∃ d, (k != n) = d := ⟨_, rfl⟩
        rw [hd] at q4 hat
        obtain ⟨a, ha⟩ : ∃ a, (x == [46]) = a := ⟨_, rfl⟩
        obtain ⟨bb, hbb⟩ : ∃ bb, (x == [46, 46]) = bb := ⟨_, rfl⟩
        obtain ⟨c, hc⟩ : ∃ c, (x == []) = c := ⟨_, rfl⟩
        have hdot : dotB x = (a || bb) := by unfold dotB; rw [ha, hbb]
        rw [hdot, hc] at hat
        have HAT := Lib.hid hat
        clear hx hn q3 hat hdot hd
        cases a with
        | true =>
          have hbad : Hid (okL R = false) := Lib.hid (by rw [HAT.out]; rfl)
          go_wp2_with fail
          go_ret
          exact ⟨by rw [HR.out, hbad.out]; rfl, HB.out⟩
        | false =>
          cases bb with
          | true =>
            have hbad : Hid (okL R = false) := Lib.hid (by rw [HAT.out]; rfl)
            go_wp2_with fail
            go_ret
            exact ⟨by rw [HR.out, hbad.out]; rfl, HB.out⟩
          | false =>
            cases c with
            | false =>
              have hnext : Hid (okL (R.drop (k + 1)) = okL R) := Lib.hid (by rw [HAT.out]; simp)
              go_wp2_with fail
              go_roundw
              case rel => exact ⟨k + 1, by omega, by go_num, hnext, trivial⟩
              case measure => simp [intOf]; omega
            | true =>
              cases d with
              | true =>
                have hbad : Hid (okL R = false) := Lib.hid (by rw [HAT.out]; rfl)
                go_wp2_with fail
                go_ret
                exact ⟨by rw [HR.out, hbad.out]; rfl, HB.out⟩
              | false =>
                have hnext : Hid (okL (R.drop (k + 1)) = okL R) := Lib.hid (by rw [HAT.out]; simp)
                go_wp2_with fail
                go_roundw
                case rel => exact ⟨k + 1, by omega, by go_num, hnext, trivial⟩
                case measure => simp [intOf]; omega
      · have d2 : decide ((k : Int) < (R.length : Int)) = false := decide_eq_false (by omega)
        have hok : Hid (okL R = true) := Lib.hid (by rw [← hst.out, List.drop_eq_nil_of_le (by omega)]; rfl)
        go_wp2_with fail
        go_ret
        exact ⟨by rw [HR.out, hok.out]; rfl, HB.out⟩
end Go.Proofs.YtkchhgpebleioaaDoor
