/-
  The reference's itself, one, digit and read for every byte and every text: they return what the program's isPlain, appendByte, hexValue and readByte return.
-/
import Derived.Test.YtbpnhiejmkeclaaDoorRefRanges
import Derived.Test.YtbpnhiejmkeclaaDoorRefList
namespace Go.Proofs.YtbpnhiejmkeclaaDoor
open Go.RowKit Go.Shelf
def markAt (i : Nat) : Nat := ((marksL[i]?).getD 0).toNat
theorem marks_get (i : Nat) (h : i < (ByteArray.mk #[33, 35, 36, 37, 38, 39, 42, 43, 44, 46, 47, 58, 59, 60, 61, 62, 63, 64, 95, 96, 123, 124, 125, 126, 40, 41]).size) : ((ByteArray.mk #[33, 35, 36, 37, 38, 39, 42, 43, 44, 46, 47, 58, 59, 60, 61, 62, 63, 64, 95, 96, 123, 124, 125, 126, 40, 41])[i]'h).toNat = markAt i := by
  unfold markAt
  rw [List.getElem?_eq_getElem (show i < marksL.length from h)]
  rfl
attribute [local go_sem] marks_get
theorem plainB_marks : ∀ n, n < 256 → plainB n = ((decide (48 ≤ n) && decide (n ≤ 57)) || (decide (97 ≤ n) && decide (n ≤ 122)) || (decide (65 ≤ n) && decide (n ≤ 90)) || (List.range 26).any fun i => markAt i == n) := by decide +kernel
theorem plainB_yes {n k : Nat} (hn : n < 256) (hk : k < 26) (h : markAt k = n) : plainB n = true := by
  rw [plainB_marks n hn, Bool.or_eq_true]
  exact .inr (List.any_eq_true.2 ⟨k, List.mem_range.2 hk, by simp [h]⟩)
theorem plainB_no {n : Nat} (hn : n < 256) (h1 : ¬ (48 ≤ n ∧ n ≤ 57)) (h2 : ¬ (97 ≤ n ∧ n ≤ 122)) (h3 : ¬ (65 ≤ n ∧ n ≤ 90)) (h : ∀ j, j < 26 → markAt j ≠ n) : plainB n = false := by
  rw [plainB_marks n hn, ← Bool.decide_and, ← Bool.decide_and, ← Bool.decide_and, decide_eq_false h1, decide_eq_false h2, decide_eq_false h3]
  simp only [Bool.false_or]
  rw [Bool.eq_false_iff]
  intro hc
  obtain ⟨j, hj, e⟩ := List.any_eq_true.1 hc
  exact h j (List.mem_range.1 hj) (by simpa using e)
set_option maxHeartbeats 1000000 in
theorem refItself_any (n : Nat) (hn : n < 256) (w : World) :
    Calls Tryd.prog 54 #[.int .u8 (n : Int)] w fun e w' => e = .returned (.bool (plainB n)) ∧ w = w' := by
  have h : (97 ≤ n ∧ n ≤ 122) ∨ (65 ≤ n ∧ n ≤ 90) ∨ (48 ≤ n ∧ n ≤ 57) ∨ n < 48 ∨ (57 < n ∧ n < 65) ∨ (90 < n ∧ n < 97) ∨ 122 < n := by omega
  have hp : ∀ b, plainB n = b → Hid (plainB n = b) := fun _ h => h
  rcases h with h | h | h | h | h | h | h
  all_goals
    first | have a1 : decide ((97 : Int) ≤ (n : Int)) = true := decide_eq_true (by omega) | have a1 : decide ((97 : Int) ≤ (n : Int)) = false := decide_eq_false (by omega)
    first | have a2 : decide ((n : Int) ≤ 122) = true := decide_eq_true (by omega) | have a2 : decide ((n : Int) ≤ 122) = false := decide_eq_false (by omega)
    first | have a3 : decide ((65 : Int) ≤ (n : Int)) = true := decide_eq_true (by omega) | have a3 : decide ((65 : Int) ≤ (n : Int)) = false := decide_eq_false (by omega)
    first | have a4 : decide ((n : Int) ≤ 90) = true := decide_eq_true (by omega) | have a4 : decide ((n : Int) ≤ 90) = false := decide_eq_false (by omega)
    first | have a5 : decide ((48 : Int) ≤ (n : Int)) = true := decide_eq_true (by omega) | have a5 : decide ((48 : Int) ≤ (n : Int)) = false := decide_eq_false (by omega)
    first | have a6 : decide ((n : Int) ≤ 57) = true := decide_eq_true (by omega) | have a6 : decide ((n : Int) ≤ 57) = false := decide_eq_false (by omega)
    go_enter Tryd.func54, Tryd.ntmps54
    go_wp2_with fail
  · have HP := hp true (by simp [plainB, h])
    go_ret
    exact ⟨by rw [HP.out]; rfl, rfl⟩
  · have HP := hp true (by simp [plainB, h])
    go_ret
    exact ⟨by rw [HP.out]; rfl, rfl⟩
  · have HP := hp true (by simp [plainB, h])
    go_ret
    exact ⟨by rw [HP.out]; rfl, rfl⟩
  all_goals
    have HN : (∀ j, j < 26 → markAt j ≠ n) → plainB n = false := plainB_no hn (by omega) (by omega) (by omega)
    have HN := Lib.hid HN
    clear h hp a1 a2 a3 a4 a5 a6
    go_loopw [3] (fun i wr => ∃ k : Nat, k ≤ 26 ∧ i = .int .i64 k ∧ Hid (∀ j, j < k → markAt j ≠ n) ∧ wr = w)
      (fun i _ => 26 - (intOf i).toNat)
    case atStart =>
      exact ⟨0, by omega, rfl, Lib.hid (fun j h => by omega), rfl⟩
    case round =>
      obtain ⟨k, hk, rfl, hall, rfl⟩ := hrel
      by_cases hlt : k < 26
      · have h1 : decide ((k : Int) < 26) = true := decide_eq_true (by omega)
        by_cases he : markAt k = n
        · have HP := Lib.hid (plainB_yes hn hlt he)
          go_wp2_with fail
          go_ret
          exact ⟨by rw [HP.out]; rfl, rfl⟩
        · have he2 : (markAt k == n) = false := by simpa using he
          go_wp2_with fail
          go_roundw
          case rel =>
            refine ⟨k + 1, by omega, by go_num, Lib.hid (fun j hj => ?_), by simp⟩
            by_cases e : j = k
            · subst e; exact he
            · exact hall.out j (by omega)
          case measure => simp [intOf]; omega
      · obtain rfl : k = 26 := by omega
        have HP := Lib.hid (HN.out hall.out)
        go_wp2_with fail
        go_ret
        exact ⟨by rw [HP.out]; rfl, rfl⟩
theorem hex_cut : ∀ i, i < 16 → (ByteArray.mk #[48, 49, 50, 51, 52, 53, 54, 55, 56, 57, 97, 98, 99, 100, 101, 102]).extract i (i + 1) = ⟨#[UInt8.ofNat (hexD i)]⟩ := by decide +kernel
set_option maxHeartbeats 1000000 in
theorem refOne_any (n : Nat) (hn : n < 256) (w : World) :
    Calls Tryd.prog 49 #[.int .u8 (n : Int)] w fun e w' => e = .returned (.string ⟨(u8s (written n)).toArray⟩) ∧ Below w.heap.size w w' := by
  have hcv : (convert 31 9 (.slice (some ⟨w.heap.size, 0, none⟩) 1 1)).run Tryd.prog (w.alloc (.cells #[.int .u8 (n : Int)] 5)) = .ok (.string ⟨([n].map UInt8.ofNat).toArray⟩) (w.alloc (.cells #[.int .u8 (n : Int)] 5)) := by
    have hs : strOfNums ([n].map fun x : Nat => (x : Int)) = ⟨([n].map UInt8.ofNat).toArray⟩ := by simp [strOfNums]
    rw [← hs]
    refine run_convert_bytes_arg _ 31 5 Tryd.underlying31 Tryd.underlying5 w.heap.size 0 1 1 ([n].map fun x : Nat => (x : Int)) (by simp) (fun i hi => ?_) 9 Tryd.underlying9
    obtain rfl : i = 0 := by simpa using hi
    go_cell
  cases hp : plainB n
  · have HP := Lib.hid hp
    have HW : Hid (written n = [92, 120, hexD (n / 16), hexD (n % 16)]) := if_neg (by rw [hp]; simp)
    clear hp hcv
    have q1 : IntKind.u8.wrap ((n : Int) / 16 + 1) = ((n / 16 + 1 : Nat) : Int) := by rw [IntKind.wrap_u8']; omega
    have q2 : IntKind.u8.wrap ((n : Int) % 16 + 1) = ((n % 16 + 1 : Nat) : Int) := by rw [IntKind.wrap_u8']; omega
    have q3 : IntKind.u8.wrap ((n : Int) / 16) = ((n / 16 : Nat) : Int) := by rw [IntKind.wrap_u8']; omega
    have q4 : ((n : Int)).tmod 16 = ((n % 16 : Nat) : Int) := by rw [Int.tmod_eq_emod_of_nonneg (by omega)]; omega
    have i1 : 0 ≤ (n : Int) / 16 ∧ (n : Int) / 16 < 16 := ⟨by omega, by omega⟩
    have i2 : 0 ≤ (n : Int) % 16 ∧ (n : Int) % 16 < 16 := ⟨by omega, by omega⟩
    go_enter Tryd.func49, Tryd.ntmps49
    go_wp2_with fail
    refine (refItself_any n hn _).mono ?_
    rintro e w' ⟨rfl, rfl⟩
    rw [HP.out]
    go_wp2_with fail
    go_region
    go_wp2_with fail
    go_ret
    rw [HW.out]
    refine ⟨?_, by go_grown⟩
    show Ending.returned (.string (_ ++ _ ++ _)) = _
    rw [hex_cut _ (by omega), hex_cut _ (by omega)]
    rfl
  · have HP := Lib.hid hp
    have HW : Hid (written n = [n]) := if_pos hp
    clear hp
    go_enter Tryd.func49, Tryd.ntmps49
    go_wp2_with fail
    refine (refItself_any n hn _).mono ?_
    rintro e w' ⟨rfl, rfl⟩
    rw [HP.out]
    go_wp2_with fail
    go_ret
    exact ⟨by rw [HW.out]; rfl, by go_grown⟩
/-- The value of a hexadecimal digit; -1 if it is none. -/
def digI (n : Nat) : Int := if (hexV n).2 then ((hexV n).1 : Int) else -1
set_option maxHeartbeats 1000000 in
theorem refDigit_any (n : Nat) (hn : n < 256) (w : World) :
    Calls Tryd.prog 55 #[.int .u8 (n : Int)] w fun e w' => e = .returned (.int .i64 (digI n)) ∧ w = w' := by
  have hp : ∀ b, digI n = b → Hid (digI n = b) := fun _ h => h
  have h : (97 ≤ n ∧ n ≤ 102) ∨ (65 ≤ n ∧ n ≤ 70) ∨ (48 ≤ n ∧ n ≤ 57) ∨ n < 48 ∨ (57 < n ∧ n < 65) ∨ (70 < n ∧ n < 97) ∨ 102 < n := by omega
  rcases h with h | h | h | h | h | h | h
  all_goals
    first
      | have HP := hp ((n - 48 : Nat) : Int) (by unfold digI; rw [show hexV n = (n - 48, true) by unfold hexV; rw [if_pos (by omega)]]; rfl)
      | have HP := hp ((n - 87 : Nat) : Int) (by unfold digI; rw [show hexV n = (n - 87, true) by unfold hexV; rw [if_neg (by omega), if_pos (by omega)]]; rfl)
      | have HP := hp ((n - 55 : Nat) : Int) (by unfold digI; rw [show hexV n = (n - 55, true) by unfold hexV; rw [if_neg (by omega), if_neg (by omega), if_pos (by omega)]]; rfl)
      | have HP := hp (-1) (by unfold digI; rw [show hexV n = (0, false) by unfold hexV; rw [if_neg (by omega), if_neg (by omega), if_neg (by omega)]]; rfl)
    clear hp
    first | have a1 : decide ((97 : Int) ≤ (n : Int)) = true := decide_eq_true (by omega) | have a1 : decide ((97 : Int) ≤ (n : Int)) = false := decide_eq_false (by omega)
    first | have a2 : decide ((n : Int) ≤ 102) = true := decide_eq_true (by omega) | have a2 : decide ((n : Int) ≤ 102) = false := decide_eq_false (by omega)
    first | have a3 : decide ((65 : Int) ≤ (n : Int)) = true := decide_eq_true (by omega) | have a3 : decide ((65 : Int) ≤ (n : Int)) = false := decide_eq_false (by omega)
    first | have a4 : decide ((n : Int) ≤ 70) = true := decide_eq_true (by omega) | have a4 : decide ((n : Int) ≤ 70) = false := decide_eq_false (by omega)
    first | have a5 : decide ((48 : Int) ≤ (n : Int)) = true := decide_eq_true (by omega) | have a5 : decide ((48 : Int) ≤ (n : Int)) = false := decide_eq_false (by omega)
    first | have a6 : decide ((n : Int) ≤ 57) = true := decide_eq_true (by omega) | have a6 : decide ((n : Int) ≤ 57) = false := decide_eq_false (by omega)
    go_enter Tryd.func55, Tryd.ntmps55
    go_wp2_with fail
    go_ret
    refine ⟨?_, rfl⟩
    rw [HP.out]
    first | rfl | (simp; omega)
theorem digI_neg (n : Nat) : decide (digI n < 0) = !(hexV n).2 := by
  unfold digI
  cases (hexV n).2 <;> simp
/-- What the reference's read answers: the byte, and how many bytes it takes. -/
def readN (l : List UInt8) : Nat × Nat := match readB l with
  | some (b, r) => (b, l.length - r.length)
  | none => (0, 0)
theorem readN_some {l : List UInt8} {b : Nat} {r : List UInt8} (h : readB l = some (b, r)) : readN l = (b, l.length - r.length) := by
  unfold readN; rw [h]
theorem readN_none {l : List UInt8} (h : readB l = none) : readN l = (0, 0) := by
  unfold readN; rw [h]
end Go.Proofs.YtbpnhiejmkeclaaDoor
