/-
  The program's Text, for rows as they lie in memory.
-/
import Derived.Test.YtacceiloggnekaaDoorRPLine
namespace Go.Proofs.YtacceiloggnekaaDoor
open Go.RowKit
attribute [local go_sem] ba_get
set_option maxRecDepth 100000 in
set_option maxHeartbeats 8000000 in
theorem text_any (rs : List Rw) (v : Value) (hf : Fair rs) (w : World) (h : RowsAt w v rs) (hn : rs.length < 1000000) :
    Calls Tryd.prog 16 #[v] w fun e w' => e = .returned (textV rs) ∧ Below w.heap.size w w' := by
  obtain ⟨i0, hi, hz0, hz1, hz2⟩ := info_parts infoB
  obtain ⟨p, c, cs, rfl, hcs, hcl⟩ := h
  obtain ⟨R, hR⟩ : ∃ R, textL rs = R := ⟨_, rfl⟩
  unfold textV
  rw [hR]
  have HR := Lib.hid hR
  have HF := Lib.hid hf
  have HCS : Hid (RowCs w cs rs) := hcs
  have HCL : Hid (CellsIn w p (rs.length * 2) (fun j => cs.getD j (.int .i64 0))) := hcl
  clear hR hf hcs hcl
  go_enter Tryd.func16, Tryd.ntmps16
  go_wp2_with fail
  go_loopw [4, 11] (fun o i wr => ∃ (k : Nat) (O : List UInt8), k ≤ rs.length ∧ i = .int .i64 k ∧ Byts wr w.heap.size o O ∧ O.length ≤ 20000 ∧ Hid (textG O (rs.drop k) = R) ∧ Below w.heap.size w wr) (fun _ i _ => rs.length - (intOf i).toNat)
  case atStart => exact ⟨0, [], Nat.zero_le _, rfl, World.ownsRow_nil _ _ _ _, Nat.zero_le _, Lib.hid (by rw [List.drop_zero]; exact HR.out), Below.refl _ _⟩
  case round =>
  obtain ⟨k, O, hk, rfl, ho, hO, hst, hB⟩ := hrel
  rename World => W
  have hsz := hB.size
  obtain ⟨ov, oc, rfl⟩ := byts_slice ho
  by_cases hlt : k < rs.length
  · have d1 : decide ((k : Int) < (rs.length : Int)) = true := decide_eq_true (by omega)
    have hb2 : (k : Int) < (rs.length : Int) := by omega
    have hdr := List.drop_eq_getElem_cons hlt
    have hfr := HF.out rs[k] (List.getElem_mem hlt)
    obtain ⟨b, off, wp, wc, rfl, hbw, hcell0, hcell, hwc⟩ := row_cells HCS.out HCL.out hB hlt
    have hstep : textG O (rs.drop k) = if rs[k].words.length = 0 then .inl 3 else if 1000 < (joinT rs[k].words).length ∨ 20000 < O.length + (joinT rs[k].words).length + 1 then .inl 4 else textG (O ++ joinT rs[k].words ++ [10]) (rs.drop (k + 1)) := by
      rw [hdr]; rfl
    obtain ⟨ws, hws⟩ : ∃ ws, rs[k].words = ws := ⟨_, rfl⟩
    obtain ⟨pz, hpz⟩ : ∃ z, rs[k].pos = z := ⟨_, rfl⟩
    rw [hpz] at hcell0
    rw [hws] at hstep hfr hwc hcell
    have HWC : Hid (CellsIn w wp (ws.length * 3) (fun j => (wdsC ws).getD j (.int .i64 0))) := hwc
    have HFR := Lib.hid hfr
    have hwl := hfr.1
    have b0 : CBlk 45 (W.alloc (.cells #[.int .i64 pz, .slice wp ws.length wc] 45)) W.heap.size [.int .i64 pz, .slice wp ws.length wc] := CBlk.new 45 W _
    have hB1 : Below w.heap.size w (W.alloc (.cells #[.int .i64 pz, .slice wp ws.length wc] 45)) := hB.alloc hsz _
    have hoA : (W.alloc (.cells #[.int .i64 pz, .slice wp ws.length wc] 45)).ownsRow w.heap.size 5 1 (.slice ov O.length oc) O.length (O.map encU) := World.ownsRow.alloc ho _
    obtain ⟨W1, hW1⟩ : ∃ W1, W.alloc (.cells #[.int .i64 pz, .slice wp ws.length wc] 45) = W1 := ⟨_, rfl⟩
    rw [hW1] at b0 hB1 hoA
    have hsz1 := hB1.size
    have hc1 := b0.cell 1 (by simp)
    simp only [List.getElem_cons_zero, List.getElem_cons_succ] at hc1
    clear hdr hws hwc hfr hpz
    by_cases hw0 : ws.length = 0
    · have hres : Hid (R = .inl 3) := Lib.hid (by rw [← hst.out, hstep, if_pos hw0])
      have d2 : ((ws.length : Int) == 0) = true := by rw [beq_iff_eq]; omega
      have d2n : (ws.length == 0) = true := by rw [beq_iff_eq]; exact hw0
      clear hst hstep hw0
      go_upto_region 5 with fail
      clear hW1
      go_wp2_with fail
      go_ret2
      exact ⟨by rw [hres.out]; rfl, hB1⟩
    · rw [if_neg hw0] at hstep
      have d2 : ((ws.length : Int) == 0) = false := by rw [beq_eq_false_iff_ne]; omega
      have d2n : (ws.length == 0) = false := by rw [beq_eq_false_iff_ne]; omega
      obtain ⟨J, hJ⟩ : ∃ J, joinT ws = J := ⟨_, rfl⟩
      have hline := fun W (hW : Below w.heap.size w W) => writeLine_any ws wp wc hwl HFR.out.2 W (HWC.out.below hW (Nat.le_refl _))
      rw [hJ] at hstep hline
      have HST := Lib.hid hstep
      have HL := Lib.hid hline
      clear hstep hJ hline hw0
      go_upto_region 5 with fail
      clear hW1
      by_cases hj : J.length ≤ 1000
      · have HL2 : Hid (∀ W, Below w.heap.size w W → Calls Tryd.prog 35 #[.slice wp ws.length wc] W fun e w' => e = .returned (.tuple #[.string ⟨J.toArray⟩, .bool true]) ∧ Below W.heap.size W w') := Lib.hid (by
          intro W hW
          refine (HL.out W hW).mono fun e w' ⟨h1, h2⟩ => ⟨?_, h2⟩
          unfold LineV at h1
          rw [if_pos hj] at h1
          exact h1)
        have hjb : J.length < 100000 := by omega
        by_cases hbig : 20000 < O.length + J.length + 1
        · have hres : Hid (R = .inl 4) := Lib.hid (by rw [← hst.out, HST.out, if_pos (Or.inr hbig)])
          have d5 : decide ((20000 : Int) < (O.length : Int) + (J.length : Int) + 1) = true := decide_eq_true (by omega)
          have d5n : decide (20000 < O.length + J.length + 1) = true := decide_eq_true hbig
          clear hst hbig hj
          go_wp2_with fail
          refine (HL2.out _ hB1).mono ?_
          rintro e w1 ⟨rfl, hb⟩
          have hB2 := Lib.hid (hB1.trans (hb.mono hsz1))
          clear hb
          go_wp2_with fail
          go_ret2
          exact ⟨by rw [hres.out]; rfl, hB2.out⟩
        · have hnext : Hid (textG (O ++ J ++ [10]) (rs.drop (k + 1)) = R) := Lib.hid (by rw [← hst.out, HST.out, if_neg (fun h => h.elim (fun g => by omega) hbig)])
          have d5 : decide ((20000 : Int) < (O.length : Int) + (J.length : Int) + 1) = false := decide_eq_false (by omega)
          have d5n : decide (20000 < O.length + J.length + 1) = false := decide_eq_false hbig
          obtain ⟨n2, hn2⟩ : ∃ n2, O.length + J.length = n2 := ⟨_, rfl⟩
          have hn2b : n2 + 1 ≤ 20000 := by omega
          have HN2 := Lib.hid hn2
          clear hst hbig hj hn2
          go_wp2_with fail
          refine (HL2.out _ hB1).mono ?_
          rintro e w1 ⟨rfl, hb⟩
          have ho2 : w1.ownsRow w.heap.size 5 1 (.slice ov O.length oc) O.length (O.map encU) := own_belowR hoA hb
          have hB2 := hB1.trans (hb.mono hsz1)
          have hsz2 := hB2.size
          have HB2 := Lib.hid hB2
          clear hb hB2
          go_upto_region 10 with fail
          go_upto_region 11 with (at_builtin; refine Lib.wpList_append_own_string _ rfl _ _ 65 9 rfl w.heap.size 5 i0 Tryd.underlying65 Tryd.underlying9 hi hz0 hz1 hz2 _ _ _ rfl ho2 ⟨J.toArray⟩ rfl (by show O.length + J.length ≤ _; unfold maxLen; omega) (by show O.length + J.length ≤ _; omega) hsz2 ?_; intro v' w3 hown' hgrow _)
          have hB3 := below_grownR HB2.out hsz2 hgrow (fun r hr => (ho2.lt r hr).1)
          have hsz3 := hB3.size
          rw [encU_str, show O.length + (ByteArray.mk J.toArray).size = n2 from HN2.out] at hown'
          obtain ⟨ov2, oc2, rfl⟩ := own_slice hown'
          clear hgrow
          go_wp2_with (at_builtin; refine wpList_append_own _ rfl _ _ 65 rfl w.heap.size 5 i0 (.int .u8 0) 1 1 Tryd.underlying65 hi hz0 hz1 hz2 rfl (by decide) _ _ _ rfl (hown'.alloc _) ⟨_, 0, none⟩ 1 1 [.int .u8 10] rfl rfl (cell_news _ _ _) (by simp [Value.oneCell']) (by unfold maxLen; omega) (by omega) (by simp; omega) ?_; intro v4 w4 hown4 hgrow4 _)
          have hB4 := below_grownR (hB3.alloc hsz3 (.cells #[.int .u8 10] 5)) (by simp; omega) hgrow4 (fun r hr => (hown'.lt r hr).1)
          go_roundw
          case rel =>
            refine ⟨k + 1, O ++ J ++ [10], by omega, by go_num, ?_, by have := HN2.out; simp; omega, hnext, hB4⟩
            unfold Byts
            rw [List.length_append, List.map_append, List.length_append, show O.length + J.length + ([10] : List UInt8).length = n2 + 1 from congrArg (· + 1) HN2.out]
            exact hown4
          case measure => simp [intOf]; omega
      · have hres : Hid (R = .inl 4) := Lib.hid (by rw [← hst.out, HST.out, if_pos (Or.inl (by omega))])
        have HL2 : Hid (∀ W, Below w.heap.size w W → Calls Tryd.prog 35 #[.slice wp ws.length wc] W fun e w' => (∃ s : List UInt8, e = .returned (.tuple #[.string ⟨s.toArray⟩, .bool false])) ∧ Below W.heap.size W w') := Lib.hid (by
          intro W hW
          refine (HL.out W hW).mono fun e w' ⟨h1, h2⟩ => ⟨?_, h2⟩
          unfold LineV at h1
          rw [if_neg hj] at h1
          exact h1)
        clear hst hj
        go_wp2_with fail
        refine (HL2.out _ hB1).mono ?_
        rintro e w1 ⟨⟨s, rfl⟩, hb⟩
        have hB2 := Lib.hid (hB1.trans (hb.mono hsz1))
        clear hb
        go_wp2_with fail
        go_ret2
        exact ⟨by rw [hres.out]; rfl, hB2.out⟩
  · have d1 : decide ((k : Int) < (rs.length : Int)) = false := decide_eq_false (by omega)
    have hres : Hid (R = .inr O) := Lib.hid (by rw [← hst.out, List.drop_eq_nil_of_le (by omega)]; rfl)
    have hcv := owned_text ho
    clear hst
    go_wp2_with fail
    go_ret2
    exact ⟨by rw [hres.out]; rfl, hB⟩
end Go.Proofs.YtacceiloggnekaaDoor
