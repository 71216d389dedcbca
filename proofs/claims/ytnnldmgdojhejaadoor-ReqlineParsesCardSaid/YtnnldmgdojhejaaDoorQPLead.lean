/-
  How many bytes of targets a text begins with, by the program.
-/
import Derived.Test.YtnnldmgdojhejaaDoorQRef2
namespace Go.Proofs.YtnnldmgdojhejaaDoor
open Go.RowKit
attribute [local go_sem] ba_get
/-- How many bytes of targets a text begins with. -/
def ldN : List UInt8 → Nat
  | [] => 0
  | c :: r => if tgB c then ldN r + 1 else 0
theorem ldN_le : ∀ l, ldN l ≤ l.length
  | [] => Nat.le_refl _
  | c :: r => by
    unfold ldN
    have := ldN_le r
    rw [List.length_cons]
    split <;> omega
theorem ldN_at {l : List UInt8} {k : Nat} (h : k < l.length) : ldN (l.drop k) = if tgB l[k] then ldN (l.drop (k + 1)) + 1 else 0 := by
  rw [List.drop_eq_getElem_cons h]; rfl
set_option maxHeartbeats 2000000 in
theorem qleading_any (l : List UInt8) (hl : l.length < 1000000) (w : World) :
    Calls Tryd.prog 30 #[.string ⟨l.toArray⟩] w fun e w' => e = .returned (.int .i64 (ldN l : Nat)) ∧ w = w' := by
  obtain ⟨N, hN⟩ : ∃ N, ldN l = N := ⟨_, rfl⟩
  rw [hN]
  have HN := Lib.hid hN
  clear hN
  go_enter Tryd.func30, Tryd.ntmps30
  go_wp2_with fail
  go_loopw [6] (fun i wr => ∃ k : Nat, k ≤ l.length ∧ i = .int .i64 k ∧ Hid (k + ldN (l.drop k) = N) ∧ w = wr) (fun i _ => l.length - (intOf i).toNat)
  case atStart => exact ⟨0, Nat.zero_le _, rfl, Lib.hid (by rw [List.drop_zero, HN.out, Nat.zero_add]), rfl⟩
  case round =>
    obtain ⟨k, hk, rfl, hp, rfl⟩ := hrel
    by_cases hlt : k < l.length
    · have h1 : decide ((k : Int) < (l.length : Int)) = true := decide_eq_true (by omega)
      have hb2 : (k : Int) < (l.length : Int) := by omega
      have hat := ldN_at hlt
      have hlt2 : (l[k]).toNat < 256 := UInt8.toNat_lt _
      have hv : tgB l[k] = tgN (l[k]).toNat := rfl
      rw [hv] at hat
      clear hv
      obtain ⟨y, hy⟩ : ∃ y, (l[k]).toNat = y := ⟨_, rfl⟩
      rw [hy] at hat hlt2
      have hc : y < 33 ∨ 126 < y ∨ y = 35 ∨ (33 ≤ y ∧ y ≤ 126 ∧ y ≠ 35) := by omega
      rcases hc with hc | hc | hc | hc
      · have e1 : decide ((y : Int) < 33) = true := decide_eq_true (by omega)
        have hres : Hid (N = k) := Lib.hid (by rw [← hp.out, hat, show tgN y = false by unfold tgN; simp; omega]; rfl)
        clear hat hc
        go_wp2_with fail
        go_ret
        exact ⟨by rw [hres.out]; rfl, rfl⟩
      · have e1 : decide ((y : Int) < 33) = false := decide_eq_false (by omega)
        have e2 : decide ((126 : Int) < (y : Int)) = true := decide_eq_true (by omega)
        have hres : Hid (N = k) := Lib.hid (by rw [← hp.out, hat, show tgN y = false by unfold tgN; simp; omega]; rfl)
        clear hat hc
        go_wp2_with fail
        go_ret
        exact ⟨by rw [hres.out]; rfl, rfl⟩
      · have e1 : decide ((y : Int) < 33) = false := decide_eq_false (by omega)
        have e2 : decide ((126 : Int) < (y : Int)) = false := decide_eq_false (by omega)
        have e3 : ((y : Int) == 35) = true := by rw [beq_iff_eq]; omega
        have hres : Hid (N = k) := Lib.hid (by rw [← hp.out, hat, show tgN y = false by unfold tgN; simp; omega]; rfl)
        clear hat hc
        go_wp2_with fail
        go_ret
        exact ⟨by rw [hres.out]; rfl, rfl⟩
      · have e1 : decide ((y : Int) < 33) = false := decide_eq_false (by omega)
        have e2 : decide ((126 : Int) < (y : Int)) = false := decide_eq_false (by omega)
        have e3 : ((y : Int) == 35) = false := by rw [beq_eq_false_iff_ne]; omega
        have hnext : Hid (k + 1 + ldN (l.drop (k + 1)) = N) := Lib.hid (by have := hp.out; rw [hat, show tgN y = true by unfold tgN; simp; omega, if_pos rfl] at this; omega)
        clear hat hc
        go_wp2_with fail
        go_roundw
        case rel => exact ⟨k + 1, by omega, by go_num, hnext, trivial⟩
        case measure => simp [intOf]; omega
    · have h1 : decide ((k : Int) < (l.length : Int)) = false := decide_eq_false (by omega)
      obtain rfl : k = l.length := by omega
      have hres : Hid (N = l.length) := Lib.hid (by rw [← hp.out, List.drop_length]; rfl)
      go_wp2_with fail
      go_ret
      exact ⟨by rw [hres.out]; rfl, rfl⟩
end Go.Proofs.YtnnldmgdojhejaaDoor
