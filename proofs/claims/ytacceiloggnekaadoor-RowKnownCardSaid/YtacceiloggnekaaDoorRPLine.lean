/-
  The program's writeLine, for words as they lie in memory.
-/
import Derived.Test.YtacceiloggnekaaDoorRPWrite
namespace Go.Proofs.YtacceiloggnekaaDoor
open Go.RowKit
attribute [local go_sem] ba_get
theorem escL_ge : ∀ l : List UInt8, l.length ≤ (escL l).length
  | [] => Nat.le_refl _
  | c :: r => by
    have := escL_ge r
    have := (escB_len c).1
    rw [escL_cons, List.length_append, List.length_cons]
    omega
theorem writeL_ge (l : List UInt8) : l.length ≤ (writeL l).length := by
  unfold writeL
  split
  · exact Nat.le_refl _
  · have := escL_ge l
    simp
    omega
theorem joinT_mono (ws : List Wd) (k : Nat) (h : k < ws.length) : (joinT (ws.take (k + 1))).length ≤ (joinT ws).length := by
  have gen : ∀ n, k + 1 + n ≤ ws.length → (joinT (ws.take (k + 1))).length ≤ (joinT (ws.take (k + 1 + n))).length := by
    intro n
    induction n with
    | zero => intro _; exact Nat.le_refl _
    | succ n ih =>
      intro hn
      have h1 := ih (by omega)
      have h2 := joinT_take (ws := ws) (k := k + 1 + n) (by omega)
      rw [if_neg (by omega)] at h2
      show _ ≤ (joinT (ws.take (k + 1 + n + 1))).length
      rw [h2]
      simp only [List.length_append]
      omega
  have := gen (ws.length - 1 - k) (by omega)
  rw [show k + 1 + (ws.length - 1 - k) = ws.length by omega, List.take_length] at this
  exact this
/-- A line, and whether it is not too long; what else is answered does not matter. -/
def LineV (J : List UInt8) (e : Ending) : Prop := if J.length ≤ 1000 then e = .returned (.tuple #[.string ⟨J.toArray⟩, .bool true]) else ∃ s : List UInt8, e = .returned (.tuple #[.string ⟨s.toArray⟩, .bool false])
theorem line_bad {J s : List UInt8} (h : ¬ J.length ≤ 1000) : LineV J (.returned (.tuple #[.string ⟨s.toArray⟩, .bool false])) := by
  unfold LineV; rw [if_neg h]; exact ⟨_, rfl⟩
theorem line_good {J : List UInt8} (h : J.length ≤ 1000) : LineV J (.returned (.tuple #[.string ⟨J.toArray⟩, .bool true])) := by
  unfold LineV; rw [if_pos h]
set_option maxRecDepth 100000 in
set_option maxHeartbeats 8000000 in
theorem writeLine_any (ws : List Wd) (wp : Option Addr) (wc : Nat) (hn : ws.length < 100000) (hx : ∀ x ∈ ws, x.text.length < 100000) (w : World) (hC : CellsIn w wp (ws.length * 3) (fun j => (wdsC ws).getD j (.int .i64 0))) :
    Calls Tryd.prog 35 #[.slice wp ws.length wc] w fun e w' => LineV (joinT ws) e ∧ Below w.heap.size w w' := by
  obtain ⟨i0, hi, hz0, hz1, hz2⟩ := info_parts infoB
  have HWC := Lib.hid hC
  have HX := Lib.hid hx
  clear hC hx
  go_enter Tryd.func35, Tryd.ntmps35
  go_wp2_with fail
  go_loopw [4, 9] (fun o i wr => ∃ m : Nat, m ≤ ws.length ∧ i = .int .i64 m ∧ Byts wr w.heap.size o (joinT (ws.take m)) ∧ Below w.heap.size w wr) (fun _ i _ => ws.length - (intOf i).toNat)
  case atStart => exact ⟨0, Nat.zero_le _, rfl, World.ownsRow_nil _ _ _ _, Below.refl _ _⟩
  case round =>
  obtain ⟨m, hm, rfl, ho, hB⟩ := hrel
  rename World => W
  have hjl := joinT_len ws m hm HX.out
  have hsz := hB.size
  obtain ⟨ov, oc, rfl⟩ := byts_slice ho
  by_cases hlt : m < ws.length
  · have d3 : decide ((m : Int) < (ws.length : Int)) = true := decide_eq_true (by omega)
    have hb3 : (m : Int) < (ws.length : Int) := by omega
    obtain ⟨wb, wo, rfl, hwb, q0, q1, q2⟩ := word_cells HWC.out hB hlt
    have hnext := joinT_take hlt
    have hxl := HX.out ws[m] (List.getElem_mem hlt)
    have hmono := joinT_mono ws m hlt
    obtain ⟨x, hxx⟩ : ∃ x, ws[m].text = x := ⟨_, rfl⟩
    obtain ⟨pz, hpz⟩ : ∃ z, ws[m].pos = z := ⟨_, rfl⟩
    obtain ⟨qz, hqz⟩ : ∃ z, ws[m].quo = z := ⟨_, rfl⟩
    rw [hpz] at q0
    rw [hqz] at q2
    rw [hxx] at q1 hnext hxl
    have hyl := writeL_len x
    have hyg := writeL_ge x
    obtain ⟨y, hy⟩ : ∃ y, writeL x = y := ⟨_, rfl⟩
    rw [hy] at hnext hyl hyg
    have HY := Lib.hid hy
    obtain ⟨B, hBt⟩ : ∃ B, joinT (ws.take m) = B := ⟨_, rfl⟩
    rw [hBt] at hnext hjl ho ⊢
    have HBT := Lib.hid hBt
    have b0 : CBlk 47 (W.alloc (.cells #[.int .i64 pz, .string ⟨x.toArray⟩, .bool qz] 47)) W.heap.size [.int .i64 pz, .string ⟨x.toArray⟩, .bool qz] := CBlk.new 47 W _
    have hB1 : Below w.heap.size w (W.alloc (.cells #[.int .i64 pz, .string ⟨x.toArray⟩, .bool qz] 47)) := hB.alloc hsz _
    have hoA : (W.alloc (.cells #[.int .i64 pz, .string ⟨x.toArray⟩, .bool qz] 47)).ownsRow w.heap.size 5 1 (.slice ov B.length oc) B.length (B.map encU) := World.ownsRow.alloc ho _
    clear hxx hy hpz hqz
    by_cases hm0 : m = 0
    · subst hm0
      rw [Nat.zero_mul, Nat.add_zero] at q0 q1 q2
      rw [if_pos rfl] at hnext
      have hB0 : B = [] := by rw [← hBt]; rfl
      have d4 : decide (0 < (0 : Nat)) = false := rfl
      have HNX : Hid (joinT (ws.take (0 + 1)) = B ++ y) := Lib.hid (by rw [hnext, hB0]; rfl)
      have HLEN : Hid (B.length + y.length ≤ (joinT ws).length) := Lib.hid (by rw [hnext] at hmono; rw [hB0]; simpa using hmono)
      have hyl2 := hyl
      clear hBt hB0 hnext hmono
      have hlit : True := trivial
      obtain ⟨W1, hW1⟩ : ∃ W1, W.alloc (.cells #[.int .i64 pz, .string ⟨x.toArray⟩, .bool qz] 47) = W1 := ⟨_, rfl⟩
      have HW1 := Lib.hid hW1
      rw [hW1] at b0 hB1 hoA
      have hc1 := b0.cell 1 (by simp)
      simp only [List.getElem_cons_zero, List.getElem_cons_succ] at hc1
      go_upto_region 7 with fail
      clear hW1 HW1
      by_cases hbig : 1000 < B.length + x.length
      · have d5 : decide ((1000 : Int) < (B.length : Int) + (x.length : Int)) = true := decide_eq_true (by omega)
        have d5n : decide (1000 < B.length + x.length) = true := decide_eq_true hbig
        have hres : Hid (¬ (joinT ws).length ≤ 1000) := Lib.hid (by have := HLEN.out; omega)
        clear hlit hbig
        go_wp2_with fail
        go_ret2
        exact ⟨line_bad hres.out, hB1⟩
      · have d5 : decide ((1000 : Int) < (B.length : Int) + (x.length : Int)) = false := decide_eq_false (by omega)
        have d5n : decide (1000 < B.length + x.length) = false := decide_eq_false hbig
        clear hlit hbig
        go_wp2_with fail
        refine (write_any x (by omega) _).mono ?_
        rintro e w1 ⟨rfl, hb⟩
        rw [HY.out]
        have ho2 : w1.ownsRow w.heap.size 5 1 (.slice ov B.length oc) B.length (B.map encU) := own_belowR hoA hb
        have hB2 := hB1.trans (hb.mono hB1.size)
        have hsz2 := hB2.size
        have HB2 := Lib.hid hB2
        clear hb hB2
        go_wp2_with (at_builtin; refine Lib.wpList_append_own_string _ rfl _ _ 65 9 rfl w.heap.size 5 i0 Tryd.underlying65 Tryd.underlying9 hi hz0 hz1 hz2 _ _ _ rfl ho2 ⟨y.toArray⟩ rfl (by show B.length + y.length ≤ _; unfold maxLen; omega) (by show B.length + y.length ≤ _; omega) hsz2 ?_; intro v' w3 hown' hgrow _)
        have hB3 := below_grownR HB2.out hsz2 hgrow (fun r hr => (ho2.lt r hr).1)
        rw [encU_str] at hown'
        go_roundw
        case rel => exact ⟨0 + 1, by omega, by go_num, by rw [HNX.out]; unfold Byts; rw [List.length_append]; exact hown', hB3⟩
        case measure => simp [intOf]; omega
    · have d4 : decide ((0 : Int) < (m : Int)) = true := decide_eq_true (by omega)
      have d4n : decide (0 < m) = true := decide_eq_true (by omega)
      rw [if_neg hm0] at hnext
      have HNX : Hid (joinT (ws.take (m + 1)) = B ++ [32] ++ y) := Lib.hid hnext
      have HLEN : Hid ((B ++ [32]).length + y.length ≤ (joinT ws).length) := Lib.hid (by rw [hnext] at hmono; simp at hmono ⊢; omega)
      clear hBt hnext hmono hm0
      have hlit : True := trivial
      obtain ⟨W1, hW1⟩ : ∃ W1, W.alloc (.cells #[.int .i64 pz, .string ⟨x.toArray⟩, .bool qz] 47) = W1 := ⟨_, rfl⟩
      have HW1 := Lib.hid hW1
      rw [hW1] at b0 hB1 hoA
      have hsz1 := hB1.size
      obtain ⟨n2, hn2⟩ : ∃ n2, B.length + 1 = n2 := ⟨_, rfl⟩
      have HN2 := Lib.hid hn2
      have hn2b : n2 ≤ 100000000000 := by omega
      clear hn2
      go_upto_region 6 with fail
      clear hW1 HW1
      have hO2 : (B ++ [32]).length = n2 := by rw [← HN2.out]; simp
      by_cases hbig : 1000 < n2 + x.length
      · have d5 : decide ((1000 : Int) < (n2 : Int) + (x.length : Int)) = true := decide_eq_true (by omega)
        have d5n : decide (1000 < n2 + x.length) = true := decide_eq_true hbig
        have hres : Hid (¬ (joinT ws).length ≤ 1000) := Lib.hid (by have := HLEN.out; omega)
        clear hlit hbig
        go_wp2_with (at_builtin; refine wpList_append_own _ rfl _ _ 65 rfl w.heap.size 5 i0 (.int .u8 0) 1 1 Tryd.underlying65 hi hz0 hz1 hz2 rfl (by decide) _ _ _ rfl (hoA.alloc _) ⟨_, 0, none⟩ 1 1 [.int .u8 32] rfl rfl (cell_news _ _ _) (by simp [Value.oneCell']) (by unfold maxLen; omega) (by omega) (by simp; omega) ?_; intro v' W2 hown' hgrow _; have b2 := (b0.alloc (.cells #[.int .u8 32] 5)).kept hgrow ((b0.alloc (.cells #[.int .u8 32] 5)).not_row (by decide) (World.ownsRow.alloc hoA (.cells #[.int .u8 32] 5))); have hB2 := below_grownR (hB1.alloc hsz1 (.cells #[.int .u8 32] 5)) (by simp; omega) hgrow (fun r hr => (hoA.lt r hr).1); rw [HN2.out] at hown'; obtain ⟨ov2, oc2, rfl⟩ := own_slice hown'; have hc1 := b2.cell 1 (by simp); simp only [List.getElem_cons_zero, List.getElem_cons_succ] at hc1; have hoC : World.ownsRow W2 w.heap.size 5 1 (.slice ov2 n2 oc2) (B ++ [32]).length ((B ++ [32]).map encU) := (by rw [List.length_append, List.map_append, show B.length + ([32] : List UInt8).length = n2 from HN2.out]; exact hown'); clear hown')
        go_ret2
        exact ⟨line_bad hres.out, hB2⟩
      · have d5 : decide ((1000 : Int) < (n2 : Int) + (x.length : Int)) = false := decide_eq_false (by omega)
        have d5n : decide (1000 < n2 + x.length) = false := decide_eq_false hbig
        clear hlit hbig
        go_wp2_with (at_builtin; refine wpList_append_own _ rfl _ _ 65 rfl w.heap.size 5 i0 (.int .u8 0) 1 1 Tryd.underlying65 hi hz0 hz1 hz2 rfl (by decide) _ _ _ rfl (hoA.alloc _) ⟨_, 0, none⟩ 1 1 [.int .u8 32] rfl rfl (cell_news _ _ _) (by simp [Value.oneCell']) (by unfold maxLen; omega) (by omega) (by simp; omega) ?_; intro v' W2 hown' hgrow _; have b2 := (b0.alloc (.cells #[.int .u8 32] 5)).kept hgrow ((b0.alloc (.cells #[.int .u8 32] 5)).not_row (by decide) (World.ownsRow.alloc hoA (.cells #[.int .u8 32] 5))); have hB2 := below_grownR (hB1.alloc hsz1 (.cells #[.int .u8 32] 5)) (by simp; omega) hgrow (fun r hr => (hoA.lt r hr).1); rw [HN2.out] at hown'; obtain ⟨ov2, oc2, rfl⟩ := own_slice hown'; have hc1 := b2.cell 1 (by simp); simp only [List.getElem_cons_zero, List.getElem_cons_succ] at hc1; have hoC : World.ownsRow W2 w.heap.size 5 1 (.slice ov2 n2 oc2) (B ++ [32]).length ((B ++ [32]).map encU) := (by rw [List.length_append, List.map_append, show B.length + ([32] : List UInt8).length = n2 from HN2.out]; exact hown'); clear hown')
        refine (write_any x (by omega) _).mono ?_
        rintro e w1 ⟨rfl, hb⟩
        rw [HY.out]
        have ho2 : w1.ownsRow w.heap.size 5 1 (.slice ov2 n2 oc2) (B ++ [32]).length ((B ++ [32]).map encU) := own_belowR hoC hb
        have hB2 := hB2.trans (hb.mono hB2.size)
        have hsz2 := hB2.size
        have HB2 := Lib.hid hB2
        clear hb hB2
        go_wp2_with (at_builtin; refine Lib.wpList_append_own_string _ rfl _ _ 65 9 rfl w.heap.size 5 i0 Tryd.underlying65 Tryd.underlying9 hi hz0 hz1 hz2 _ _ _ rfl ho2 ⟨y.toArray⟩ rfl (by show (B ++ [32]).length + y.length ≤ _; unfold maxLen; omega) (by show (B ++ [32]).length + y.length ≤ _; omega) hsz2 ?_; intro v' w3 hown' hgrow _)
        have hB3 := below_grownR HB2.out hsz2 hgrow (fun r hr => (ho2.lt r hr).1)
        rw [encU_str] at hown'
        go_roundw
        case rel => exact ⟨m + 1, by omega, by go_num, by rw [HNX.out]; unfold Byts; rw [List.length_append]; exact hown', hB3⟩
        case measure => simp [intOf]; omega
  · have d3 : decide ((m : Int) < (ws.length : Int)) = false := decide_eq_false (by omega)
    obtain ⟨B, hBt⟩ : ∃ B, joinT (ws.take m) = B := ⟨_, rfl⟩
    rw [hBt] at hjl ho ⊢
    have hJ : Hid (joinT ws = B) := Lib.hid (by rw [← hBt, List.take_of_length_le (by omega)])
    have hcv := owned_text ho
    clear hBt
    by_cases hle : B.length ≤ 1000
    · have d4 : decide ((B.length : Int) ≤ 1000) = true := decide_eq_true (by omega)
      have d4n : decide (B.length ≤ 1000) = true := decide_eq_true hle
      have HLE := Lib.hid hle
      clear hle
      go_wp2_with fail
      go_ret2
      exact ⟨by rw [hJ.out]; exact line_good HLE.out, hB⟩
    · have d4 : decide ((B.length : Int) ≤ 1000) = false := decide_eq_false (by omega)
      have d4n : decide (B.length ≤ 1000) = false := decide_eq_false hle
      have HLE := Lib.hid hle
      clear hle
      go_wp2_with fail
      go_ret2
      exact ⟨by rw [hJ.out]; exact line_bad HLE.out, hB⟩
end Go.Proofs.YtacceiloggnekaaDoor
