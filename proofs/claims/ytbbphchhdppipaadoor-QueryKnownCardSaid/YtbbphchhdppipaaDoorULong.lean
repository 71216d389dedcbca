/-
  The law text's own text and long.
-/
import Derived.Test.YtbbphchhdppipaaDoorUErr
import Derived.Deep.OwnRows
namespace Go.Proofs.YtbbphchhdppipaaDoor
open Go.RowKit
def aN (n : Nat) : List UInt8 := List.replicate n 97
/-- Block B holds n bytes, of which k are letters. -/
def LAt (w : World) (B n k : Nat) : Prop := B < w.heap.size ∧ ∀ j, j < n → w.cell? ⟨B, j, none⟩ = some (.int .u8 (if j < k then 97 else 0)) ∧ w.frozen? ⟨B, j, none⟩ = false
theorem LAt.step {w : World} {B n k : Nat} (hk : k < n) (h : LAt w B n k) : LAt (w.setCell ⟨B, k, none⟩ (.int .u8 97)) B n (k + 1) := by
  obtain ⟨h1, h2⟩ := h
  refine ⟨by simp [World.setCell]; exact h1, fun j hj => ?_⟩
  rw [World.frozen?_setCell]
  refine ⟨?_, (h2 j hj).2⟩
  by_cases e : j = k
  · subst e
    rw [World.cell?_setCell_same _ _ _ (h2 j hj).1, if_pos (by omega)]
  · rw [World.cell?_setCell_other _ _ _ _ (fun h => e (by injection h with _ h; exact h.symm)), (h2 j hj).1]
    by_cases h3 : j < k
    · rw [if_pos h3, if_pos (by omega)]
    · rw [if_neg h3, if_neg (by omega)]
theorem LAt.made (w : World) (n : Nat) : LAt (w.alloc (.cells (madeCells #[.int .u8 0] n) 5)) w.heap.size n 0 := by
  have hr := World.rowIs_made w (.int .u8 0) n 5
  have hn := heap_alloc_new w (.cells (madeCells #[Value.int .u8 0] n) 5)
  refine ⟨by rw [World.size_alloc]; omega, fun j hj => ⟨?_, ?_⟩⟩
  · rw [if_neg (by omega)]
    exact hr.cell hj
  · unfold World.frozen?
    dsimp only
    rw [hn]
    simp
theorem LAt.conv {w : World} {B n : Nat} (h : LAt w B n n) : (convert 53 9 (.slice (some ⟨B, 0, none⟩) n n)).run Tryd.prog w = .ok (.string ⟨(aN n).toArray⟩) w := by
  have := run_convert_bytes_back (P := Tryd.prog) w 53 9 5 ⟨B, 0, none⟩ n (aN n) Tryd.underlying53 Tryd.underlying5 Tryd.underlying9 (fun j hj => by
    have hj2 : j < n := by simpa [aN] using hj
    have := (h.2 j hj2).1
    rw [if_pos hj2] at this
    rw [Addr.add_lit, Nat.zero_add, this]
    simp [aN])
  rw [show (aN n).length = n by simp [aN]] at this
  exact this
theorem info8 : (Tryd.prog.info? 5).map (fun i => (i.zero, i.size, i.bytes)) = some (some (.int .u8 0), 1, 1) := by kernel_rfl
set_option maxHeartbeats 2000000 in
theorem long_any (n : Nat) (hn : n < 100000) (w : World) :
    Calls Tryd.prog 34 #[.int .i64 (n : Int)] w fun e w' => e = .returned (.string ⟨(aN n).toArray⟩) ∧ Below w.heap.size w w' := by
  have hmk := run_make_row' (P := Tryd.prog) 53 5 (.int .u8 0) 1 Tryd.underlying53 info8 rfl .i64 .i64 n (by omega) (by omega)
  have HM := Lib.hid (LAt.made w n)
  have HB := Lib.hid ((Below.refl w.heap.size w).alloc (Nat.le_refl _) (.cells (madeCells #[.int .u8 0] n) 5))
  go_enter Tryd.func34, Tryd.ntmps34
  go_wp2_with fail
  clear hmk
  go_loopw [4] (fun i wr => ∃ k : Nat, k ≤ n ∧ i = .int .i64 k ∧ Hid (LAt wr w.heap.size n k) ∧ Hid (Below w.heap.size w wr)) (fun i _ => n - (intOf i).toNat)
  case atStart => exact ⟨0, Nat.zero_le _, rfl, HM, HB⟩
  case round =>
    clear HM HB
    obtain ⟨k, hk, rfl, hb, hB⟩ := hrel
    by_cases hlt : k < n
    · have h1 : decide ((k : Int) < (n : Int)) = true := decide_eq_true (by omega)
      have h1n : decide (k < n) = true := decide_eq_true hlt
      have hb2 : (k : Int) < (n : Int) := by omega
      obtain ⟨hc1, hc2⟩ := hb.out.2 k hlt
      have hnext := Lib.hid (LAt.step hlt hb.out)
      have hBn : Hid (Below w.heap.size w (wr.setCell ⟨w.heap.size, k, none⟩ (.int .u8 97))) := Lib.hid (hB.out.setCell (Nat.le_refl _) _)
      go_wp2_with fail
      go_roundw
      case rel => exact ⟨k + 1, by omega, by go_num, hnext, hBn⟩
      case measure => simp [intOf]; omega
    · have h1 : decide ((k : Int) < (n : Int)) = false := decide_eq_false (by omega)
      have h1n : decide (k < n) = false := decide_eq_false hlt
      obtain rfl : k = n := by omega
      have hcb := LAt.conv hb.out
      go_wp2_with fail
      go_ret
      exact ⟨rfl, hB.out⟩
/-- What a text or an error's name prints. -/
def txtOf (l : List UInt8) (e : Nat) : List UInt8 := if e = 3 then [102, 111, 114, 109] else if e = 4 then [108, 111, 110, 103] else l
set_option maxHeartbeats 2000000 in
theorem text_any (l : List UInt8) (e : Nat) (he : e = 0 ∨ e = 3 ∨ e = 4) (w : World) :
    Calls Tryd.prog 33 #[.string ⟨l.toArray⟩, .int .i64 (e : Int)] w fun x w' => x = .returned (.string ⟨(txtOf l e).toArray⟩) ∧ Below w.heap.size w w' := by
  rcases he with rfl | rfl | rfl
  · go_enter Tryd.func33, Tryd.ntmps33
    go_wp2_with fail
    go_ret
    exact ⟨rfl, Below.refl _ _⟩
  · go_enter Tryd.func33, Tryd.ntmps33
    go_wp2_with fail
    refine (error3_any _).mono ?_
    rintro e w1 ⟨rfl, rfl⟩
    go_wp2_with fail
    go_ret
    exact ⟨rfl, Below.refl _ _⟩
  · go_enter Tryd.func33, Tryd.ntmps33
    go_wp2_with fail
    refine (error4_any _).mono ?_
    rintro e w1 ⟨rfl, rfl⟩
    go_wp2_with fail
    go_ret
    exact ⟨rfl, Below.refl _ _⟩
end Go.Proofs.YtbbphchhdppipaaDoor
