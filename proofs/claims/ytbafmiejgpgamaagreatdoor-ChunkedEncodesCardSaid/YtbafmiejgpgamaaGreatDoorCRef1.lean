/-
  The reference's of, blank, inner for every text.
-/
import Derived.Test.YtbafmiejgpgamaaGreatDoorProg
import Derived.WalkKit
import Derived.IntWalk
import Derived.Lib.Hide
import Derived.Below
import Derived.Deep.DeepCutAuto
namespace Go.Proofs.YtbafmiejgpgamaaGreatDoor
open Go.RowKit
theorem ba_get (l : List UInt8) (i : Nat) (h : i < (ByteArray.mk l.toArray).size) : (ByteArray.mk l.toArray)[i]'h = l[i]'h := rfl
attribute [local go_sem] ba_get
theorem all_drop {p : UInt8 → Bool} {l : List UInt8} {k : Nat} (h : k < l.length) : (l.drop k).all p = (p l[k] && (l.drop (k + 1)).all p) := by
  rw [List.drop_eq_getElem_cons h, List.all_cons]
/-- The bytes of tokens, but for letters and digits. -/
def othU : List UInt8 := [33, 35, 36, 37, 38, 39, 42, 43, 45, 46, 94, 95, 96, 124, 126]
def alnN (n : Nat) : Bool := decide (48 ≤ n ∧ n ≤ 57) || decide (97 ≤ n ∧ n ≤ 122) || decide (65 ≤ n ∧ n ≤ 90)
def anyE (l : List UInt8) (n : Nat) : Bool := l.any fun c => c.toNat == n
/-- A byte of tokens. -/
def tokN (n : Nat) : Bool := alnN n || anyE othU n
def tokB (b : UInt8) : Bool := tokN b.toNat
def blN (n : Nat) : Bool := n == 32 || n == 9
def isBl (b : UInt8) : Bool := blN b.toNat
theorem anyE_drop {l : List UInt8} {k : Nat} (h : k < l.length) (n : Nat) : anyE (l.drop k) n = ((l[k]).toNat == n || anyE (l.drop (k + 1)) n) := by
  unfold anyE
  rw [List.drop_eq_getElem_cons h, List.any_cons]
set_option maxHeartbeats 4000000 in
theorem refOf_any (n : Nat) (hn : n < 256) (w : World) :
    Calls Tryz.prog 83 #[.int .u8 (n : Int)] w fun e w' => e = .returned (.bool (tokN n)) ∧ w = w' := by
  obtain ⟨R, hR⟩ : ∃ R, tokN n = R := ⟨_, rfl⟩
  rw [hR]
  have HR := Lib.hid hR
  clear hR
  have a1 : decide ((48 : Int) ≤ (n : Int)) = decide (48 ≤ n) := by rw [decide_eq_decide]; omega
  have hc : (48 ≤ n ∧ n ≤ 57) ∨ (97 ≤ n ∧ n ≤ 122) ∨ (65 ≤ n ∧ n ≤ 90) ∨ n < 48 ∨ (57 < n ∧ n < 65) ∨ (90 < n ∧ n < 97) ∨ 122 < n := by omega
  clear a1
  rcases hc with h | h | h | h | h | h | h
  rotate_left 3
  all_goals
    try (
      have p1 : decide ((48 : Int) ≤ (n : Int)) = true := decide_eq_true (by omega)
      first
        | have p2 : decide ((n : Int) ≤ 57) = true := decide_eq_true (by omega)
        | have p2 : decide ((n : Int) ≤ 57) = false := decide_eq_false (by omega))
    try (have p1 : decide ((48 : Int) ≤ (n : Int)) = false := decide_eq_false (by omega))
    try (
      have p3 : decide ((97 : Int) ≤ (n : Int)) = true := decide_eq_true (by omega)
      first
        | have p4 : decide ((n : Int) ≤ 122) = true := decide_eq_true (by omega)
        | have p4 : decide ((n : Int) ≤ 122) = false := decide_eq_false (by omega))
    try (have p3 : decide ((97 : Int) ≤ (n : Int)) = false := decide_eq_false (by omega))
    try (
      have p5 : decide ((65 : Int) ≤ (n : Int)) = true := decide_eq_true (by omega)
      first
        | have p6 : decide ((n : Int) ≤ 90) = true := decide_eq_true (by omega)
        | have p6 : decide ((n : Int) ≤ 90) = false := decide_eq_false (by omega))
    try (have p5 : decide ((65 : Int) ≤ (n : Int)) = false := decide_eq_false (by omega))
  rotate_right 3
  iterate 3 (
    focus
      have HT : Hid (R = true) := Lib.hid (by rw [← HR.out]; unfold tokN alnN; simp; omega)
      clear h
      go_enter Tryz.func83, Tryz.ntmps83
      go_wp2_with fail
      go_ret
      exact ⟨by rw [HT.out]; rfl, rfl⟩
    )
  all_goals
    have HO : Hid (anyE othU n = R) := Lib.hid (by rw [← HR.out]; unfold tokN; rw [show alnN n = false by unfold alnN; simp; omega]; rfl)
    clear h
    go_enter Tryz.func83, Tryz.ntmps83
    go_wp2_with fail
    go_loopw [3] (fun i wr => ∃ k : Nat, k ≤ 15 ∧ i = .int .i64 k ∧ Hid (anyE (othU.drop k) n = R) ∧ wr = w) (fun i _ => 15 - (intOf i).toNat)
    case atStart => exact ⟨0, Nat.zero_le _, rfl, HO, rfl⟩
    case round =>
      obtain ⟨k, hk, rfl, hp, rfl⟩ := hrel
      by_cases hlt : k < 15
      · have d1 : decide ((k : Int) < 15) = true := decide_eq_true (by omega)
        have hb2 : (k : Int) < 15 := by omega
        have hat := anyE_drop (l := othU) (k := k) hlt n
        obtain ⟨y, hy⟩ : ∃ y, (([33, 35, 36, 37, 38, 39, 42, 43, 45, 46, 94, 95, 96, 124, 126] : List UInt8)[k]'hlt).toNat = y := ⟨_, rfl⟩
        rw [show (othU[k]'hlt).toNat = y from hy] at hat
        by_cases he : y = n
        · have q1 : ((y : Int) == (n : Int)) = true := by rw [beq_iff_eq]; omega
          have hres : Hid (R = true) := Lib.hid (by rw [← hp.out, hat, he, beq_self_eq_true]; rfl)
          clear hat he
          go_wp2_with fail
          go_ret
          exact ⟨by rw [hres.out]; rfl, rfl⟩
        · have q1 : ((y : Int) == (n : Int)) = false := by rw [beq_eq_false_iff_ne]; omega
          have hnext : Hid (anyE (othU.drop (k + 1)) n = R) := Lib.hid (by rw [← hp.out, hat, beq_eq_false_iff_ne.2 he]; rfl)
          clear hat he
          go_wp2_with fail
          go_roundw
          case rel => exact ⟨k + 1, by omega, by go_num, hnext, trivial⟩
          case measure => simp [intOf]; omega
      · have d1 : decide ((k : Int) < 15) = false := decide_eq_false (by omega)
        obtain rfl : k = 15 := by omega
        have hres : Hid (R = false) := Lib.hid (by rw [← hp.out]; rfl)
        go_wp2_with fail
        go_ret
        exact ⟨by rw [hres.out]; rfl, rfl⟩
set_option maxHeartbeats 1000000 in
theorem refBlank_any (n : Nat) (hn : n < 256) (w : World) :
    Calls Tryz.prog 85 #[.int .u8 (n : Int)] w fun e w' => e = .returned (.bool (blN n)) ∧ w = w' := by
  by_cases h1 : n = 32
  · subst h1
    go_enter Tryz.func85, Tryz.ntmps85
    go_wp2_with fail
    go_ret
    exact ⟨rfl, rfl⟩
  · have a1 : ((n : Int) == 32) = false := by rw [beq_eq_false_iff_ne]; omega
    by_cases h2 : n = 9
    · subst h2
      go_enter Tryz.func85, Tryz.ntmps85
      go_wp2_with fail
      go_ret
      exact ⟨rfl, rfl⟩
    · have a2 : ((n : Int) == 9) = false := by rw [beq_eq_false_iff_ne]; omega
      have HV : Hid (blN n = false) := Lib.hid (by unfold blN; simp [h1, h2])
      go_enter Tryz.func85, Tryz.ntmps85
      go_wp2_with fail
      go_ret
      exact ⟨by rw [HV.out]; rfl, rfl⟩
/-- A byte that may stand in values. -/
def inN (n : Nat) : Bool := blN n || (decide (33 ≤ n) && n != 127)
def inB (b : UInt8) : Bool := inN b.toNat
set_option maxHeartbeats 1000000 in
theorem refInner_any (l : List UInt8) (hl : l.length < 200000000000000) (w : World) :
    Calls Tryz.prog 84 #[.string ⟨l.toArray⟩] w fun e w' => e = .returned (.bool (l.all inB)) ∧ w = w' := by
  obtain ⟨R, hR⟩ : ∃ R, l.all inB = R := ⟨_, rfl⟩
  rw [hR]
  have HR := Lib.hid hR
  clear hR
  go_enter Tryz.func84, Tryz.ntmps84
  go_wp2_with fail
  go_loopw [3] (fun i wr => ∃ k : Nat, k ≤ l.length ∧ i = .int .i64 k ∧ Hid ((l.drop k).all inB = R) ∧ wr = w) (fun i _ => l.length - (intOf i).toNat)
  case atStart => exact ⟨0, Nat.zero_le _, rfl, Lib.hid (by rw [List.drop_zero, HR.out]), rfl⟩
  case round =>
    obtain ⟨k, hk, rfl, hp, rfl⟩ := hrel
    by_cases hlt : k < l.length
    · have h1 : decide ((k : Int) < (l.length : Int)) = true := decide_eq_true (by omega)
      have hb2 : (k : Int) < (l.length : Int) := by omega
      have hat := all_drop (p := inB) hlt
      obtain ⟨y, hy⟩ : ∃ y, (l[k]).toNat = y := ⟨_, rfl⟩
      have hlt2 : y < 256 := by rw [← hy]; exact UInt8.toNat_lt _
      rw [show inB l[k] = inN y by unfold inB; rw [hy]] at hat
      have hif : ∀ b, inN y = b → (b = false → Hid (R = false)) ∧ (b = true → Hid ((l.drop (k + 1)).all inB = R)) := fun b hb =>
        ⟨fun h => Lib.hid (by rw [← hp.out, hat, hb, h]; rfl), fun h => Lib.hid (by rw [← hp.out, hat, hb, h]; rfl)⟩
      clear hat
      obtain ⟨q, hq⟩ : ∃ q, blN y = q := ⟨_, rfl⟩
      have HQ := Lib.hid hq
      cases q
      · by_cases h33 : y < 33
        · have e1 : decide ((y : Int) < 33) = true := decide_eq_true (by omega)
          have hres := (hif false (by unfold inN; rw [hq]; simp; omega)).1 rfl
          clear hif hq
          go_wp2_with fail
          refine (refBlank_any y hlt2 _).mono ?_
          rintro e w' ⟨rfl, rfl⟩
          rw [HQ.out]
          go_wp2_with fail
          go_ret
          exact ⟨by rw [hres.out]; rfl, rfl⟩
        · have e1 : decide ((y : Int) < 33) = false := decide_eq_false (by omega)
          by_cases h127 : y = 127
          · have e2 : ((y : Int) == 127) = true := by rw [beq_iff_eq]; omega
            have hres := (hif false (by unfold inN; rw [hq]; simp; omega)).1 rfl
            clear hif hq h127
            go_wp2_with fail
            refine (refBlank_any y hlt2 _).mono ?_
            rintro e w' ⟨rfl, rfl⟩
            rw [HQ.out]
            go_wp2_with fail
            go_ret
            exact ⟨by rw [hres.out]; rfl, rfl⟩
          · have e2 : ((y : Int) == 127) = false := by rw [beq_eq_false_iff_ne]; omega
            have hnext := (hif true (by unfold inN; rw [hq]; simp; omega)).2 rfl
            clear hif hq
            go_wp2_with fail
            refine (refBlank_any y hlt2 _).mono ?_
            rintro e w' ⟨rfl, rfl⟩
            rw [HQ.out]
            go_wp2_with fail
            go_roundw
            case rel => exact ⟨k + 1, by omega, by go_num, hnext, by simp⟩
            case measure => simp [intOf]; omega
      · have hnext := (hif true (by unfold inN; rw [hq]; rfl)).2 rfl
        clear hif hq
        go_wp2_with fail
        refine (refBlank_any y hlt2 _).mono ?_
        rintro e w' ⟨rfl, rfl⟩
        rw [HQ.out]
        go_wp2_with fail
        go_roundw
        case rel => exact ⟨k + 1, by omega, by go_num, hnext, by simp⟩
        case measure => simp [intOf]; omega
    · have h1 : decide ((k : Int) < (l.length : Int)) = false := decide_eq_false (by omega)
      have hres : Hid (R = true) := Lib.hid (by rw [← hp.out, List.drop_eq_nil_of_le (by omega)]; rfl)
      go_wp2_with fail
      go_ret
      exact ⟨by rw [hres.out]; rfl, rfl⟩
end Go.Proofs.YtbafmiejgpgamaaGreatDoor
