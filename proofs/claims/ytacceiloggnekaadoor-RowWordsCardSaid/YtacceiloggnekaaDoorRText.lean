/-
  The reference's Text for rows as they lie in memory.
-/
import Derived.Test.YtacceiloggnekaaDoorRAt
import Derived.Test.YtacceiloggnekaaDoorRWrite
import Derived.Test.YtacceiloggnekaaDoorRNum
namespace Go.Proofs.YtacceiloggnekaaDoor
open Go.RowKit
/-- The words of a row as they are written, with one space between two. -/
def joinT : List Wd → List UInt8
  | [] => []
  | x :: r => writeL x.text ++ r.flatMap fun y => 32 :: writeL y.text
theorem joinT_snoc (P : List Wd) (y : Wd) : joinT (P ++ [y]) = if P.length = 0 then writeL y.text else joinT P ++ [32] ++ writeL y.text := by
  cases P with
  | nil => simp [joinT]
  | cons x r => simp [joinT]
/-- The text of rows behind a text, or an error. -/
def textG : List UInt8 → List Rw → Nat ⊕ List UInt8
  | acc, [] => .inr acc
  | acc, r :: rs =>
    if r.words.length = 0 then .inl 3 else
    if 1000 < (joinT r.words).length ∨ 20000 < acc.length + (joinT r.words).length + 1 then .inl 4 else textG (acc ++ joinT r.words ++ [10]) rs
def textL (rs : List Rw) : Nat ⊕ List UInt8 := textG [] rs
def textR : Nat ⊕ List UInt8 → Value
  | .inl e => .tuple #[.string ⟨#[]⟩, .int .i64 (e : Int)]
  | .inr t => .tuple #[.string ⟨t.toArray⟩, .int .i64 0]
def textV (rs : List Rw) : Value := textR (textL rs)
/-- Rows whose words are not great. -/
def Fair (rs : List Rw) : Prop := ∀ r ∈ rs, r.words.length < 100000 ∧ ∀ x ∈ r.words, x.text.length < 100000
theorem joinT_take {ws : List Wd} {k : Nat} (h : k < ws.length) : joinT (ws.take (k + 1)) = if k = 0 then writeL ws[k].text else joinT (ws.take k) ++ [32] ++ writeL ws[k].text := by
  rw [List.take_succ_eq_append_getElem h, joinT_snoc, List.length_take, Nat.min_eq_left (Nat.le_of_lt h)]
theorem joinT_len : ∀ (ws : List Wd) (k : Nat), k ≤ ws.length → (∀ x ∈ ws, x.text.length < 100000) → (joinT (ws.take k)).length ≤ k * 1000000
  | ws, 0, _, _ => by simp [joinT]
  | ws, k + 1, h, hx => by
    have h1 := joinT_len ws k (by omega) hx
    have h2 := writeL_len ws[k].text
    have h3 := hx ws[k] (List.getElem_mem _)
    rw [joinT_take (by omega : k < ws.length)]
    split
    · omega
    · simp only [List.length_append, List.length_cons, List.length_nil]
      omega
set_option maxRecDepth 100000 in
set_option maxHeartbeats 8000000 in
theorem refText_any (rs : List Rw) (v : Value) (hf : Fair rs) (w : World) (h : RowsAt w v rs) (hn : rs.length < 1000000) :
    Calls Tryd.prog 17 #[v] w fun e w' => e = .returned (textV rs) ∧ Below w.heap.size w w' := by
  obtain ⟨p, c, cs, rfl, hcs, hcl⟩ := h
  obtain ⟨R, hR⟩ : ∃ R, textL rs = R := ⟨_, rfl⟩
  unfold textV
  rw [hR]
  have HR := Lib.hid hR
  have HF := Lib.hid hf
  have HCS : Hid (RowCs w cs rs) := hcs
  have HCL : Hid (CellsIn w p (rs.length * 2) (fun j => cs.getD j (.int .i64 0))) := hcl
  clear hR hf hcs hcl
  go_enter Tryd.func17, Tryd.ntmps17
  go_wp2_with fail
  go_loopw [4, 5] (fun o i wr => ∃ (k : Nat) (O : List UInt8), k ≤ rs.length ∧ i = .int .i64 k ∧ o = .string ⟨O.toArray⟩ ∧ O.length ≤ 20000 ∧ Hid (textG O (rs.drop k) = R) ∧ Below w.heap.size w wr) (fun _ i _ => rs.length - (intOf i).toNat)
  case atStart => exact ⟨0, [], Nat.zero_le _, rfl, rfl, Nat.zero_le _, Lib.hid (by rw [List.drop_zero]; exact HR.out), Below.refl _ _⟩
  case round =>
  obtain ⟨k, O, hk, rfl, rfl, hO, hst, hB⟩ := hrel
  by_cases hlt : k < rs.length
  · have d1 : decide ((k : Int) < (rs.length : Int)) = true := decide_eq_true (by omega)
    have hb2 : (k : Int) < (rs.length : Int) := by omega
    have hdr := List.drop_eq_getElem_cons hlt
    have hfr := HF.out rs[k] (List.getElem_mem hlt)
    obtain ⟨b, off, wp, wc, rfl, hbw, hcell0, hcell, hwc⟩ := row_cells HCS.out HCL.out hB hlt
    have hstep : textG O (rs.drop k) = if rs[k].words.length = 0 then .inl 3 else if 1000 < (joinT rs[k].words).length ∨ 20000 < O.length + (joinT rs[k].words).length + 1 then .inl 4 else textG (O ++ joinT rs[k].words ++ [10]) (rs.drop (k + 1)) := by
      rw [hdr]; rfl
    obtain ⟨ws, hws⟩ : ∃ ws, rs[k].words = ws := ⟨_, rfl⟩
    rw [hws] at hstep hfr hwc hcell
    have HWC : Hid (CellsIn w wp (ws.length * 3) (fun j => (wdsC ws).getD j (.int .i64 0))) := hwc
    have HFR := Lib.hid hfr
    have hwl := hfr.1
    clear hdr hws hwc hfr hcell0
    by_cases hw0 : ws.length = 0
    · have hres : Hid (R = .inl 3) := Lib.hid (by rw [← hst.out, hstep, if_pos hw0])
      have d2 : ((ws.length : Int) == 0) = true := by rw [beq_iff_eq]; omega
      clear hst hstep
      go_wp2_with fail
      go_ret2
      exact ⟨by rw [hres.out]; rfl, hB⟩
    · rw [if_neg hw0] at hstep
      have d2 : ((ws.length : Int) == 0) = false := by rw [beq_eq_false_iff_ne]; omega
      obtain ⟨J, hJ⟩ : ∃ J, joinT ws = J := ⟨_, rfl⟩
      rw [hJ] at hstep
      have HST := Lib.hid hstep
      have HJ := Lib.hid hJ
      clear hstep hJ
      go_wp2_with fail
      go_loopw [7, 8] (fun o i wx => ∃ m : Nat, m ≤ ws.length ∧ i = .int .i64 m ∧ o = .string ⟨(joinT (ws.take m)).toArray⟩ ∧ Below w.heap.size w wx) (fun _ i _ => ws.length - (intOf i).toNat)
      case atStart => exact ⟨0, Nat.zero_le _, rfl, rfl, hB⟩
      case round =>
      obtain ⟨m, hm, rfl, rfl, hB2⟩ := hrel
      by_cases hlt2 : m < ws.length
      · have d3 : decide ((m : Int) < (ws.length : Int)) = true := decide_eq_true (by omega)
        have hb3 : (m : Int) < (ws.length : Int) := by omega
        obtain ⟨wb, wo, rfl, hwb, q0, q1, q2⟩ := word_cells HWC.out hB2 hlt2
        have hnext := joinT_take hlt2
        have hxl := HFR.out.2 ws[m] (List.getElem_mem hlt2)
        have hjl := joinT_len ws m hm HFR.out.2
        obtain ⟨x, hx⟩ : ∃ x, ws[m].text = x := ⟨_, rfl⟩
        rw [hx] at q1 hnext hxl
        have hyl := writeL_len x
        obtain ⟨y, hy⟩ : ∃ y, writeL x = y := ⟨_, rfl⟩
        rw [hy] at hnext hyl
        have HY := Lib.hid hy
        obtain ⟨B, hBt⟩ : ∃ B, joinT (ws.take m) = B := ⟨_, rfl⟩
        rw [hBt] at hnext hjl ⊢
        have HBT := Lib.hid hBt
        have HNX := Lib.hid hnext
        clear hx hy q0 q2 hnext
        by_cases hm0 : m = 0
        · subst hm0
          rw [Nat.zero_mul, Nat.add_zero] at q1
          have hB0 : B = [] := by rw [← hBt]; rfl
          have s1 : ∀ w, (Op.stringOp .add ⟨B.toArray⟩ ⟨y.toArray⟩).run Tryd.prog w = .ok (.string ⟨(B ++ y).toArray⟩) w := fun w => str_add B y (by unfold Small; omega)
          have e1 : Hid (joinT (ws.take (0 + 1)) = B ++ y) := Lib.hid (by rw [HNX.out, if_pos rfl, hB0]; rfl)
          clear hBt hB0
          go_wp2_with fail
          refine (refWrite_any x (by omega) _).mono ?_
          rintro e w' ⟨rfl, hb⟩
          rw [HY.out]
          have hB2 := hB2.trans (hb.mono hB2.size)
          clear hb
          go_wp2_with fail
          go_roundw
          case rel => exact ⟨0 + 1, by omega, by go_num, by rw [e1.out], hB2⟩
          case measure => simp [intOf]; omega
        · have d4 : decide ((0 : Int) < (m : Int)) = true := decide_eq_true (by omega)
          have d4p : 0 < m := by omega
          have d4n : decide (0 < m) = true := decide_eq_true d4p
          have s1 : ∀ w, (Op.stringOp .add ⟨B.toArray⟩ ⟨#[32]⟩).run Tryd.prog w = .ok (.string ⟨(B ++ [32]).toArray⟩) w := fun w => str_add B [32] (by unfold Small; simp; omega)
          have s2 : ∀ w, (Op.stringOp .add ⟨(B ++ [32]).toArray⟩ ⟨y.toArray⟩).run Tryd.prog w = .ok (.string ⟨(B ++ [32] ++ y).toArray⟩) w := fun w => str_add (B ++ [32]) y (by unfold Small; simp; omega)
          have e1 : Hid (joinT (ws.take (m + 1)) = B ++ [32] ++ y) := Lib.hid (by rw [HNX.out, if_neg hm0])
          clear hBt
          go_wp2_with fail
          refine (refWrite_any x (by omega) _).mono ?_
          rintro e w' ⟨rfl, hb⟩
          rw [HY.out]
          have hB2 := hB2.trans (hb.mono hB2.size)
          clear hb
          go_wp2_with fail
          go_roundw
          case rel => exact ⟨m + 1, by omega, by go_num, by rw [e1.out]; simp, hB2⟩
          case measure => simp [intOf]; omega
      · obtain rfl : m = ws.length := by omega
        have d3 : decide ((ws.length : Int) < (ws.length : Int)) = false := decide_eq_false (by omega)
        have e1 : joinT (ws.take ws.length) = J := by rw [List.take_length]; exact HJ.out
        rw [e1]
        by_cases ht : 1000 < J.length
        · have hres : Hid (R = .inl 4) := Lib.hid (by rw [← hst.out, HST.out, if_pos (Or.inl ht)])
          have d4 : decide ((1000 : Int) < (J.length : Int)) = true := decide_eq_true (by omega)
          have d4n : decide (1000 < J.length) = true := decide_eq_true ht
          clear e1 hst
          go_wp2_with fail
          go_ret2
          exact ⟨by rw [hres.out]; rfl, hB2⟩
        · have d4 : decide ((1000 : Int) < (J.length : Int)) = false := decide_eq_false (by omega)
          have d4n : decide (1000 < J.length) = false := decide_eq_false ht
          by_cases ht2 : 20000 < O.length + J.length + 1
          · have hres : Hid (R = .inl 4) := Lib.hid (by rw [← hst.out, HST.out, if_pos (Or.inr ht2)])
            have d5 : decide ((20000 : Int) < (O.length : Int) + (J.length : Int) + 1) = true := decide_eq_true (by omega)
            have d5n : decide (20000 < O.length + J.length + 1) = true := decide_eq_true ht2
            clear e1 hst
            go_wp2_with fail
            go_ret2
            exact ⟨by rw [hres.out]; rfl, hB2⟩
          · have hnext : Hid (textG (O ++ J ++ [10]) (rs.drop (k + 1)) = R) := Lib.hid (by rw [← hst.out, HST.out, if_neg (by omega)])
            have d5 : decide ((20000 : Int) < (O.length : Int) + (J.length : Int) + 1) = false := decide_eq_false (by omega)
            have d5n : decide (20000 < O.length + J.length + 1) = false := decide_eq_false ht2
            have s1 : ∀ w, (Op.stringOp .add ⟨O.toArray⟩ ⟨J.toArray⟩).run Tryd.prog w = .ok (.string ⟨(O ++ J).toArray⟩) w := fun w => str_add O J (by unfold Small; omega)
            have s2 : ∀ w, (Op.stringOp .add ⟨(O ++ J).toArray⟩ ⟨#[10]⟩).run Tryd.prog w = .ok (.string ⟨(O ++ J ++ [10]).toArray⟩) w := fun w => str_add (O ++ J) [10] (by unfold Small; simp; omega)
            clear e1 hst
            go_wp2_with fail
            go_roundw
            case rel => exact ⟨k + 1, O ++ J ++ [10], by omega, by go_num, by simp, by simp; omega, hnext, hB2⟩
            case measure => simp [intOf]; omega
  · have d1 : decide ((k : Int) < (rs.length : Int)) = false := decide_eq_false (by omega)
    have hres : Hid (R = .inr O) := Lib.hid (by rw [← hst.out, List.drop_eq_nil_of_le (by omega)]; rfl)
    clear hst
    go_wp2_with fail
    go_ret2
    exact ⟨by rw [hres.out]; rfl, hB⟩
end Go.Proofs.YtacceiloggnekaaDoor
