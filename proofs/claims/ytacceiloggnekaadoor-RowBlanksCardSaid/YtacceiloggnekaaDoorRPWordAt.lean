/-
  The program's atGap and toWord for every line and place.
-/
import Derived.Test.YtacceiloggnekaaDoorRPBWord
namespace Go.Proofs.YtacceiloggnekaaDoor
open Go.RowKit
attribute [local go_sem] ba_get
theorem blank_quiet (n : Nat) (hn : n < 256) (w : World) :
    Calls Tryd.prog 55 #[.int .u8 (n : Int)] w fun e w' => e = .returned (.bool (blN n)) ∧ w' = w :=
  (blank_any n hn w).mono fun _ _ ⟨h1, h2⟩ => ⟨h1, h2.symm⟩
/-- May a word end here? -/
def gapB (l : List UInt8) (k : Nat) : Bool := if k < l.length then isBl ((l[k]?).getD 0) else true
set_option maxRecDepth 100000 in
set_option maxHeartbeats 4000000 in
theorem atGap_any (l : List UInt8) (k : Nat) (f : Int) (B : Nat) (hk : k ≤ l.length) (w : World) (hC : Cur w B l k f) :
    Calls Tryd.prog 67 #[.pointer (some ⟨B, 0, none⟩)] w fun e w' => e = .returned (.bool (gapB l k)) ∧ Below w.heap.size w w' := by
  obtain ⟨c0, c1, -⟩ := hC.cells
  by_cases hlt : k < l.length
  · have hb1 : (k : Int) < (l.length : Int) := by omega
    have d1 : ((k : Int) == (l.length : Int)) = false := by rw [beq_eq_false_iff_ne]; omega
    have d1n : (k == l.length) = false := by rw [beq_eq_false_iff_ne]; omega
    have HG : Hid (gapB l k = blN (l[k]).toNat) := Lib.hid (by unfold gapB; rw [if_pos hlt, List.getElem?_eq_getElem hlt]; rfl)
    obtain ⟨y, hy⟩ : ∃ y, (l[k]).toNat = y := ⟨_, rfl⟩
    have hy2 : y < 256 := by rw [← hy]; exact UInt8.toNat_lt _
    rw [hy] at HG
    obtain ⟨v, hv⟩ : ∃ v, blN y = v := ⟨_, rfl⟩
    rw [hv] at HG
    have hB := fun W => blank_quiet y hy2 W
    rw [hv] at hB
    clear hv
    go_enter Tryd.func67, Tryd.ntmps67
    go_wp2_with fail
    go_quiet ((go_at_call 55; exact Calls.quiet_of_same (hB _)))
    go_wp2_with fail
    go_ret
    exact ⟨by rw [HG.out]; rfl, below_drewN (Below.refl _ _) _⟩
  · have d1 : ((k : Int) == (l.length : Int)) = true := by rw [beq_iff_eq]; omega
    have d1n : (k == l.length) = true := by rw [beq_iff_eq]; omega
    have HG : Hid (gapB l k = true) := Lib.hid (by unfold gapB; rw [if_neg hlt])
    go_enter Tryd.func67, Tryd.ntmps67
    go_wp2_with fail
    go_quiet (fail)
    go_wp2_with fail
    go_ret
    exact ⟨by rw [HG.out]; rfl, below_drewN (Below.refl _ _) _⟩
/-- How many blanks stand ahead. -/
def sk : List UInt8 → Nat
  | [] => 0
  | c :: r => if isBl c then sk r + 1 else 0
theorem sk_at {l : List UInt8} {k : Nat} (h : k < l.length) : sk (l.drop k) = if isBl l[k] then sk (l.drop (k + 1)) + 1 else 0 := by
  rw [List.drop_eq_getElem_cons h]; rfl
theorem sk_le : ∀ r, sk r ≤ r.length
  | [] => Nat.le_refl _
  | c :: r => by
    unfold sk
    split
    · simpa using sk_le r
    · exact Nat.zero_le _
/-- Does a word begin here? -/
def wdB (l : List UInt8) (j : Nat) : Bool := decide (j < l.length) && (((l[j]?).getD 0).toNat != 35)
/-- Where a reader is. -/
def curPos (W : World) (B : Nat) : Nat := match W.cell? ⟨B, 1, none⟩ with | some (.int _ k) => k.toNat | _ => 0
theorem Cur.pos {w : World} {B : Nat} {l : List UInt8} {k : Nat} {f : Int} (h : Cur w B l k f) : curPos w B = k := by
  obtain ⟨-, c1, -⟩ := h.cells
  unfold curPos
  rw [c1]
  simp
theorem grown_drewN {w w' : World} {row : Option Nat} (h : w.grownBy w' row) (n : Nat) : w.grownBy (w'.drewN n) row := ⟨h.os, h.tape, h.output, h.size, h.block⟩
set_option maxRecDepth 100000 in
set_option maxHeartbeats 4000000 in
theorem toWord_any (l : List UInt8) (hl : l.length < 1000000) (k : Nat) (f : Int) (B : Nat) (hk : k ≤ l.length) (w : World) (hC : Cur w B l k f) :
    Calls Tryd.prog 45 #[.pointer (some ⟨B, 0, none⟩)] w fun e w' =>
      e = .returned (.bool (wdB l (k + sk (l.drop k)))) ∧ Cur w' B l (k + sk (l.drop k)) f ∧ w.grownBy w' (some B) := by
  obtain ⟨M, hM⟩ : ∃ M, k + sk (l.drop k) = M := ⟨_, rfl⟩
  rw [hM]
  have HM := Lib.hid hM
  have HC : Hid (Cur w B l k f) := Lib.hid hC
  clear hM hC
  go_enter Tryd.func45, Tryd.ntmps45
  go_wp2_with fail
  go_loopw [3] (fun _ wr => ∃ j : Nat, j ≤ l.length ∧ Hid (Cur wr B l j f) ∧ Hid (w.grownBy wr (some B)) ∧ Hid (j + sk (l.drop j) = M)) (fun _ wr => l.length - curPos wr B)
  case atStart => exact ⟨k, hk, HC, Lib.hid (World.grownBy.refl _ _), HM⟩
  case round =>
    obtain ⟨j, hj, hC, hG, hst⟩ := hrel
    rename World => W
    obtain ⟨c0, c1, -⟩ := hC.out.cells
    by_cases hlt : j < l.length
    · have hb1 : (j : Int) < (l.length : Int) := by omega
      have d1 : decide ((j : Int) < (l.length : Int)) = true := decide_eq_true (by omega)
      have d1n : decide (j < l.length) = true := decide_eq_true hlt
      have hat := sk_at hlt
      have hwd : wdB l j = ((l[j]).toNat != 35) := by unfold wdB; rw [List.getElem?_eq_getElem hlt, d1n]; rfl
      have hyv : isBl l[j] = blN (l[j]).toNat := rfl
      obtain ⟨y, hy⟩ : ∃ y, (l[j]).toNat = y := ⟨_, rfl⟩
      have hy2 : y < 256 := by rw [← hy]; exact UInt8.toNat_lt _
      rw [hy] at hwd hyv
      have hB := fun W => blank_quiet y hy2 W
      cases hv : blN y
      · rw [hyv, hv] at hat
        rw [hv] at hB
        have hMj : j = M := by rw [← hst.out, hat]; simp
        have HJ := Lib.hid hMj
        obtain ⟨b, hb⟩ : ∃ b, (y != 35) = b := ⟨_, rfl⟩
        have d3 : ((y : Int) != 35) = b := by
          rw [← hb]
          cases h : (y != 35)
          · rw [bne_eq_false_iff_eq] at h; rw [bne_eq_false_iff_eq]; omega
          · rw [bne_iff_ne] at h; rw [bne_iff_ne]; omega
        rw [hb] at hwd
        have HW := Lib.hid hwd
        clear hat hyv hv hMj hb hwd
        go_wp2_with fail
        go_quiet ((go_at_call 55; exact Calls.quiet_of_same (hB _)))
        go_wp2_with fail
        go_quiet (fail)
        go_wp2_with fail
        go_ret
        refine ⟨by rw [← HJ.out, HW.out]; rfl, ?_, ?_⟩
        · rw [← HJ.out]; exact hC.out
        · exact grown_drewN (grown_drewN hG.out _) _
      · rw [hyv, hv] at hat
        rw [hv] at hB
        have hnext : Hid (j + 1 + sk (l.drop (j + 1)) = M) := Lib.hid (by rw [← hst.out, hat]; simp; omega)
        have f1 := CBlk.free hC.out 1
        have q1 : IntKind.i64.wrap ((j : Int) + 1) = ((j + 1 : Nat) : Int) := by rw [IntKind.wrap_i64]; omega
        have q1b : (j : Int) + 1 = ((j + 1 : Nat) : Int) := by omega
        have hpos := hC.out.pos
        have HP := Lib.hid hpos
        obtain ⟨j1, hj1⟩ : ∃ j1, j + 1 = j1 := ⟨_, rfl⟩
        rw [hj1] at q1 q1b hnext
        have hj1l : j1 ≤ l.length := by omega
        have HJ1 := Lib.hid hj1
        clear hat hyv hv hwd hpos hj1
        go_wp2_with fail
        go_quiet ((go_at_call 55; exact Calls.quiet_of_same (hB _)))
        go_wp2_with fail
        have hC2 : Cur (World.setCell (World.drewN W nq) ⟨B, 1, none⟩ (.int .i64 (j1 : Int))) B l j1 f := Cur.to (w := W.drewN nq) (k := j) hC.out j1
        go_roundw
        case rel => exact ⟨j1, hj1l, Lib.hid hC2, Lib.hid ((grown_drewN hG.out nq).trans (grown_at _ B 1 _)), hnext⟩
        case measure => rw [HP.out, hC2.pos]; have := HJ1.out; omega
    · have d1 : decide ((j : Int) < (l.length : Int)) = false := decide_eq_false (by omega)
      have d1n : decide (j < l.length) = false := decide_eq_false hlt
      have hMj : j = M := by rw [← hst.out, List.drop_eq_nil_of_le (by omega)]; rfl
      have hwd : wdB l j = false := by unfold wdB; rw [d1n]; rfl
      have HJ := Lib.hid hMj
      have HW := Lib.hid hwd
      clear hMj hwd
      go_wp2_with fail
      go_quiet (fail)
      go_wp2_with fail
      go_quiet (fail)
      go_wp2_with fail
      go_ret
      refine ⟨by rw [← HJ.out, HW.out]; rfl, ?_, ?_⟩
      · rw [← HJ.out]; exact hC.out
      · exact grown_drewN (grown_drewN hG.out _) _
end Go.Proofs.YtacceiloggnekaaDoor
