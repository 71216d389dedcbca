/-
  The reference's Which for every text and list of names.
-/
import Derived.Test.YtacceiloggnekaaDoorRNum
import Derived.Test.YtacceiloggnekaaDoorICells
namespace Go.Proofs.YtacceiloggnekaaDoor
open Go.RowKit
/-- The first of m names from k on. -/
def whichF (l : List UInt8) (g : Nat → List UInt8) : Nat → Nat → Option Nat
  | _, 0 => none
  | k, m + 1 => if g k = l then some k else whichF l g (k + 1) m
theorem whichF_at {l : List UInt8} {g : Nat → List UInt8} {n k : Nat} (h : k < n) : whichF l g k (n - k) = if g k = l then some k else whichF l g (k + 1) (n - (k + 1)) := by
  obtain ⟨m, hm⟩ : ∃ m, n - k = m + 1 := ⟨n - k - 1, by omega⟩
  rw [hm, show n - (k + 1) = m by omega]
  rfl
def whichR : Option Nat → Value
  | none => .tuple #[.int .i64 0, .int .i64 11]
  | some k => .tuple #[.int .i64 (k : Nat), .int .i64 0]
def whichV (l : List UInt8) (g : Nat → List UInt8) (n : Nat) : Value := whichR (whichF l g 0 n)
set_option maxHeartbeats 2000000 in
theorem refWhich_any (l : List UInt8) (p : Option Addr) (n c : Nat) (hn : n < 1000000) (g : Nat → List UInt8) (w : World) (hC : CellsIn w p (n * 1) (strC g)) :
    Calls Tryd.prog 21 #[.string ⟨l.toArray⟩, .slice p n c] w fun e w' => e = .returned (whichV l g n) ∧ w = w' := by
  have HC := Lib.hid hC
  obtain ⟨R, hR⟩ : ∃ R, whichF l g 0 n = R := ⟨_, rfl⟩
  have HR : Hid (whichV l g n = whichR R) := Lib.hid (by unfold whichV; rw [hR])
  have H0 := Lib.hid hR
  clear hC hR
  go_enter Tryd.func21, Tryd.ntmps21
  go_wp2_with fail
  go_loopw [6] (fun i wr => ∃ k : Nat, k ≤ n ∧ i = .int .i64 k ∧ Hid (whichF l g k (n - k) = R) ∧ wr = w) (fun i _ => n - (intOf i).toNat)
  case atStart => exact ⟨0, Nat.zero_le _, rfl, Lib.hid H0.out, rfl⟩
  case round =>
    obtain ⟨k, hk, rfl, hp, rfl⟩ := hrel
    by_cases hlt : k < n
    · have h1 : decide ((k : Int) < (n : Int)) = true := decide_eq_true (by omega)
      have hb2 : (k : Int) < (n : Int) := by omega
      obtain ⟨b, off, hpp, hbl, hcell0⟩ := HC.out k (by omega)
      subst hpp
      have hcell : wr.cell? ⟨b, off + k, none⟩ = some (.string ⟨(g k).toArray⟩) := hcell0
      have hat := whichF_at (l := l) (g := g) hlt
      clear hcell0
      by_cases he : g k = l
      · rw [if_pos he] at hat
        rw [he] at hcell
        have hres : Hid (R = some k) := Lib.hid (by rw [← hp.out, hat])
        clear hat he
        go_wp2_with fail
        go_ret2
        exact ⟨by rw [HR.out, hres.out]; rfl, rfl⟩
      · rw [if_neg he] at hat
        have hnext : Hid (whichF l g (k + 1) (n - (k + 1)) = R) := Lib.hid (by rw [← hp.out, hat])
        obtain ⟨q, hq⟩ : ∃ q, g k = q := ⟨_, rfl⟩
        rw [hq] at hcell he
        have hne2 : (q == l) = false := beq_eq_false_iff_ne.2 he
        clear hat hq
        go_wp2_with fail
        go_roundw
        case rel => exact ⟨k + 1, by omega, by go_num, hnext, by simp⟩
        case measure => simp [intOf]; omega
    · have h1 : decide ((k : Int) < (n : Int)) = false := decide_eq_false (by omega)
      have hres : Hid (R = none) := Lib.hid (by rw [← hp.out, show n - k = 0 by omega]; rfl)
      go_wp2_with fail
      go_ret2
      exact ⟨by rw [HR.out, hres.out]; rfl, rfl⟩
end Go.Proofs.YtacceiloggnekaaDoor
