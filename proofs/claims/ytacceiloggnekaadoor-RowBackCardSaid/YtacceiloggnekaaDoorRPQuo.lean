/-
  The program's quotedWord for every line and place.
-/
import Derived.Test.YtacceiloggnekaaDoorRPWordAt
import Derived.BigFrame

namespace Go.Proofs.YtacceiloggnekaaDoor
open Go.RowKit
attribute [local go_sem] ba_get
/-- The library's variables stay where only a reader moves. -/
def VTB (w : World) (B : Nat) : Prop := ∀ W, w.grownBy W (some B) → VT W
theorem VTB.step {w w' : World} {B : Nat} (h : VTB w B) (hg : w.grownBy w' (some B)) : VTB w' B := fun W hW => h W (hg.trans hW)
theorem VTB.of {w0 w : World} {B : Nat} (h : VT w0) (hb : Below w0.heap.size w0 w) (hB : w0.heap.size ≤ B) : VTB w B := fun W hW =>
  h.below (hb.trans ⟨hW.os, hW.tape, hW.output, hW.size, fun k hk => hW.block k (Nat.lt_of_lt_of_le hk hb.size) (fun e => by injection e with e; omega)⟩)
theorem belowCall {w wx w' : World} (h : Below w.heap.size w wx) (hb : Below wx.heap.size wx w') : Below w.heap.size w w' := h.trans (hb.mono h.size)
theorem atGap_quiet (l : List UInt8) (k : Nat) (f : Int) (B : Nat) (hk : k ≤ l.length) (w : World) (hC : Cur w B l k f) :
    Calls Tryd.prog 67 #[.pointer (some ⟨B, 0, none⟩)] w fun e w' => e = .returned (.bool (gapB l k)) ∧ ∃ n, w' = w.drewN n := by
  obtain ⟨c0, c1, -⟩ := hC.cells
  by_cases hlt : k < l.length
  · have hb1 : (k : Int) < (l.length : Int) := by omega
    have d1 : ((k : Int) == (l.length : Int)) = false := by rw [beq_eq_false_iff_ne]; omega
    have d1n : (k == l.length) = false := by rw [beq_eq_false_iff_ne]; omega
    have HG : Hid (gapB l k = blN (l[k]).toNat) := Lib.hid (by unfold gapB; rw [if_pos hlt, List.getElem?_eq_getElem hlt]; rfl)
    obtain ⟨y, hy⟩ : ∃ y, (l[k]).toNat = y := ⟨_, rfl⟩
    have hy2 : y < 256 := by rw [← hy]; exact UInt8.toNat_lt _
    rw [hy] at HG
    obtain ⟨v, hv⟩ : ∃ v, blN y = v := ⟨_, rfl⟩
    rw [hv] at HG
    have hB := fun W => blank_quiet y hy2 W
    rw [hv] at hB
    clear hv
    go_enter Tryd.func67, Tryd.ntmps67
    go_wp2_with fail
    go_quiet ((go_at_call 55; exact Calls.quiet_of_same (hB _)))
    go_wp2_with fail
    go_ret
    exact ⟨by rw [HG.out]; rfl, _, rfl⟩
  · have d1 : ((k : Int) == (l.length : Int)) = true := by rw [beq_iff_eq]; omega
    have d1n : (k == l.length) = true := by rw [beq_iff_eq]; omega
    have HG : Hid (gapB l k = true) := Lib.hid (by unfold gapB; rw [if_neg hlt])
    go_enter Tryd.func67, Tryd.ntmps67
    go_wp2_with fail
    go_quiet (fail)
    go_wp2_with fail
    go_ret
    exact ⟨by rw [HG.out]; rfl, _, rfl⟩
/-- What quotedWord answers. -/
def QPost (l : List UInt8) (k : Nat) (f : Int) (B : Nat) (e : Ending) (w' : World) : Prop :=
  if (quoP l k).2 = 0 then e = .returned (.tuple #[.string ⟨#[]⟩, .bool false]) ∧ ∃ k', k' ≤ l.length ∧ Cur w' B l k' f
  else e = .returned (.tuple #[.string ⟨(quoP l k).1.toArray⟩, .bool (gapB l (k + (quoP l k).2))]) ∧ Cur w' B l (k + (quoP l k).2) f
set_option maxRecDepth 100000 in
set_option maxHeartbeats 16000000 in
theorem quotedWord_any (l : List UInt8) (hl : l.length < 1000000) (k : Nat) (f : Int) (B : Nat) (hk : k < l.length) (w : World) (hC : Cur w B l k f) (hV : VTB w B) :
    Calls Tryd.prog 56 #[.pointer (some ⟨B, 0, none⟩)] w fun e w' => QPost l k f B e w' ∧ w.grownBy w' (some B) := by
  obtain ⟨i0, hi, hz0, hz1, hz2⟩ := info_parts infoB
  obtain ⟨⟨S, N⟩, hQ⟩ : ∃ R, quoP l k = R := ⟨_, rfl⟩
  have HQ0 : Hid (quoR [] 1 (quo (l.drop (k + 1))) = (S, N)) := Lib.hid hQ
  have HBAD : Hid (N = 0 → ∀ w' k', k' ≤ l.length → Cur w' B l k' f → QPost l k f B (.returned (.tuple #[.string ⟨#[]⟩, .bool false])) w') := Lib.hid (fun hN w' k' h1 h2 => by
    unfold QPost
    rw [hQ, if_pos hN]
    exact ⟨rfl, k', h1, h2⟩)
  have HGOOD : Hid (N ≠ 0 → ∀ w', Cur w' B l (k + N) f → QPost l k f B (.returned (.tuple #[.string ⟨S.toArray⟩, .bool (gapB l (k + N))])) w') := Lib.hid (fun hN w' h2 => by
    unfold QPost
    rw [hQ, if_neg hN]
    exact ⟨rfl, h2⟩)
  have HV : Hid (VTB w B) := Lib.hid hV
  obtain ⟨c0, c1, -⟩ := hC.cells
  have f1 := CBlk.free hC 1
  have q1 : IntKind.i64.wrap ((k : Int) + 1) = ((k + 1 : Nat) : Int) := by rw [IntKind.wrap_i64]; omega
  have q1b : (k : Int) + 1 = ((k + 1 : Nat) : Int) := by omega
  have hC1 : Cur (w.setCell ⟨B, 1, none⟩ (.int .i64 ((k + 1 : Nat) : Int))) B l (k + 1) f := hC.to (k + 1)
  have hG1 : w.grownBy (w.setCell ⟨B, 1, none⟩ (.int .i64 ((k + 1 : Nat) : Int))) (some B) := grown_at w B 1 _
  have HC1 := Lib.hid hC1
  have HG1 := Lib.hid hG1
  obtain ⟨k1, hk1⟩ : ∃ k1, k + 1 = k1 := ⟨_, rfl⟩
  rw [hk1] at q1 q1b HC1 HG1 HQ0
  have hk1l : k1 ≤ l.length := by omega
  have HK1 := Lib.hid hk1
  clear hQ hC hV hC1 hG1 hk1
  go_enter Tryd.func56, Tryd.ntmps56
  go_wp2_with fail
  go_step3
  go_wp2_with fail
  go_step3
  go_wp2_with fail
  go_loopw [4] (fun o wr => ∃ (j : Nat) (O : List UInt8), k1 ≤ j ∧ j ≤ l.length ∧ O.length ≤ j ∧ Hid (Byts wr w.heap.size o O) ∧ Hid (Cur wr B l j f) ∧ Hid (w.grownBy wr (some B)) ∧ Hid (quoR O (j - k) (quo (l.drop j)) = (S, N))) (fun _ wr => l.length - curPos wr B)
  case atStart => exact ⟨k1, [], Nat.le_refl _, hk1l, Nat.zero_le _, Lib.hid (World.ownsRow_nil _ _ _ _), HC1, HG1, Lib.hid (by rw [← HQ0.out]; have := HK1.out; rw [show k1 - k = 1 by omega])⟩
  case round =>
    obtain ⟨j, O, hkj, hj, hOl, ho, hC, hG, hst⟩ := hrel
    rename World => W
    clear c0 c1 f1 q1 q1b
    obtain ⟨ov, oc, rfl⟩ := byts_slice ho.out
    obtain ⟨c0, c1, -⟩ := hC.out.cells
    have f1 := CBlk.free hC.out 1
    have hsz := hG.out.size
    by_cases hlt : j < l.length
    · have hb1 : (j : Int) < (l.length : Int) := by omega
      have d1 : decide ((j : Int) < (l.length : Int)) = true := decide_eq_true (by omega)
      have d1n : decide (j < l.length) = true := decide_eq_true hlt
      have hne : l.drop j ≠ [] := by intro e; have := congrArg List.length e; simp at this; omega
      have HNE := Lib.hid hne
      obtain ⟨x, hx⟩ : ∃ x, l[j] = x := ⟨_, rfl⟩
      obtain ⟨y, hy⟩ : ∃ y, x.toNat = y := ⟨_, rfl⟩
      have hy2 : y < 256 := by rw [← hy]; exact UInt8.toNat_lt _
      have HX : Hid ((l[j]).toNat = y) := Lib.hid (by rw [hx, hy])
      have HXX := Lib.hid hx
      have HYY := Lib.hid hy
      have hkj2 : j - k + 1 = j + 1 - k := by have := HK1.out; omega
      have HKJ := Lib.hid hkj2
      have q1 : IntKind.i64.wrap ((j : Int) + 1) = ((j + 1 : Nat) : Int) := by rw [IntKind.wrap_i64]; omega
      have q1b : (j : Int) + 1 = ((j + 1 : Nat) : Int) := by omega
      have hpos := Lib.hid hC.out.pos
      clear hne hkj2
      go_wp2_with fail
      go_quiet (fail)
      obtain ⟨W1, hW1⟩ : ∃ W1, World.drewN W nq = W1 := ⟨_, rfl⟩
      rw [hW1]
      have e0 : W1.cell? ⟨B, 0, none⟩ = some (.string ⟨l.toArray⟩) := by rw [← hW1]; exact c0
      have e1 : W1.cell? ⟨B, 1, none⟩ = some (.int .i64 (j : Int)) := by rw [← hW1]; exact c1
      have HW1 := Lib.hid hW1
      clear hW1 c0 c1
      go_wp2_with fail
      go_quiet (fail)
      obtain ⟨W2, hW2⟩ : ∃ W2, World.drewN W1 nq = W2 := ⟨_, rfl⟩
      rw [hW2]
      have hC2 : Cur W2 B l j f := by rw [← hW2, ← HW1.out]; exact hC.out
      have hG2 : w.grownBy W2 (some B) := by rw [← hW2, ← HW1.out]; exact grown_drewN (grown_drewN hG.out _) _
      have ho2 : W2.ownsRow w.heap.size 5 1 (.slice ov O.length oc) O.length (O.map encU) := by rw [← hW2, ← HW1.out]; exact ho.out
      have hsz2 := hG2.size
      have hBW2 : B < W2.heap.size := CBlk.lt hC2
      clear e0 e1 f1 HW1 hW2
      obtain ⟨c0, c1, -⟩ := hC2.cells
      have f1 := CBlk.free hC2 1
      by_cases h34 : y = 34
      · have a1 : ((y : Int) == 34) = true := by rw [beq_iff_eq]; omega
        have a1n : (y == 34) = true := by rw [beq_iff_eq]; exact h34
        have hres : Hid ((S, N) = (O, j + 1 - k)) := Lib.hid (by
          rw [← hst.out, quo_end (step_end hlt (by rw [HX.out, h34]))]
          show (O ++ [], 1 + (j - k)) = _
          rw [List.append_nil, Nat.add_comm, HKJ.out])
        obtain ⟨r1, r2⟩ := Prod.mk.inj hres.out
        have HGO : Hid (∀ w', Cur w' B l (j + 1) f → QPost l k f B (.returned (.tuple #[.string ⟨O.toArray⟩, .bool (gapB l (j + 1))])) w') := Lib.hid (fun w' h => by
          have hN0 : N ≠ 0 := by have := HK1.out; omega
          have hkN : k + N = j + 1 := by have := HK1.out; omega
          have := HGOOD.out hN0 w'
          rw [hkN, r1] at this
          exact this h)
        obtain ⟨j1, hj1⟩ : ∃ j1, j + 1 = j1 := ⟨_, rfl⟩
        rw [hj1] at q1 q1b HGO
        have hj1l : j1 ≤ l.length := by omega
        have hC3 : Cur (W2.setCell ⟨B, 1, none⟩ (.int .i64 (j1 : Int))) B l j1 f := hC2.to j1
        have hG3 : w.grownBy (W2.setCell ⟨B, 1, none⟩ (.int .i64 (j1 : Int))) (some B) := hG2.trans (grown_at W2 B 1 _)
        have ho3 : Byts (W2.setCell ⟨B, 1, none⟩ (.int .i64 (j1 : Int))) w.heap.size (.slice ov O.length oc) O := own_store ho2 hC2 (by decide) 1 _
        have HGAP := fun W' (h : Cur W' B l j1 f) => atGap_quiet l j1 f B hj1l W' h
        have HGAPH := Lib.hid HGAP
        clear hres r1 r2 hj1 HGAP h34
        go_upto_region 7 with fail
        obtain ⟨W3, hW3⟩ : ∃ W3, W2.setCell ⟨B, 1, none⟩ (.int .i64 (j1 : Int)) = W3 := ⟨_, rfl⟩
        rw [hW3] at hC3 hG3 ho3 ⊢
        have hcv : ∀ q, (convert 65 9 (.slice ov O.length oc)).run Tryd.prog (W3.drewN q) = .ok (.string ⟨O.toArray⟩) (W3.drewN q) := fun q => owned_text (W := W3.drewN q) ho3
        have hCq : ∀ q, Cur (W3.drewN q) B l j1 f := fun q => hC3
        have HCQ := Lib.hid hCq
        clear hW3 c0 c1 f1 hCq
        go_quiet ((go_at_call 67; exact Calls.quiet_of (HGAPH.out _ (HCQ.out _))))
        go_wp2_with fail
        rw [Exit.noGoto_ret]
        go_ret2
        exact ⟨HGO.out _ (HCQ.out _), grown_drewN hG3 _⟩
      · have a1 : ((y : Int) == 34) = false := by rw [beq_eq_false_iff_ne]; omega
        have a1n : (y == 34) = false := by rw [beq_eq_false_iff_ne]; exact h34
        by_cases h92 : y = 92
        · have a2 : ((y : Int) == 92) = true := by rw [beq_iff_eq]; omega
          have a2n : (y == 92) = true := by rw [beq_iff_eq]; exact h92
          have hcd := List.drop_eq_getElem_cons hlt
          have hsq := stepQ_rdE (c := l[j]) (r := l.drop (j + 1)) (by rw [HX.out, h92])
          rw [← hcd] at hsq
          have hslen := stepQ_len (l.drop j)
          have hgx : (ByteArray.mk l.toArray).extract j l.length = ⟨(l.drop j).toArray⟩ := by
            have := ba_cutn l j (l.length - j)
            rw [show j + (l.length - j) = l.length by omega, List.take_of_length_le (by simp)] at this
            exact this
          have hTl : (l.drop j).length = l.length - j := by simp
          have hrl := rdE_lt (l.drop j)
          obtain ⟨⟨v, n⟩, hvn⟩ : ∃ R, rdE (l.drop j) = R := ⟨_, rfl⟩
          have hrv : rdV (l.drop j) = .tuple #[.int .u8 (v : Int), .int .i64 (n : Int)] := by unfold rdV; rw [hvn]
          rw [hvn] at hsq hrl
          dsimp only at hsq hrl
          have HRE : Hid (∀ wx, Below W2.heap.size W2 wx → Calls Tryd.prog 68 #[.string ⟨(l.drop j).toArray⟩] wx fun e w' => e = .returned (.tuple #[.int .u8 (v : Int), .int .i64 (n : Int)]) ∧ Below wx.heap.size wx w') := Lib.hid (fun wx hx => by
            have := readEscape_any (l.drop j) (by omega) wx (HV.out wx (hG2.trans (Below.but hx _)))
            rw [hrv] at this
            exact this)
          have hjl : (j : Int) ≤ (l.length : Int) := by omega
          have K4 : Hid (∀ wx, Below W2.heap.size W2 wx → (fun wx => Below W2.heap.size W2 wx ∧ wx.cell? ⟨B, 0, none⟩ = some (.string ⟨l.toArray⟩) ∧ wx.cell? ⟨B, 1, none⟩ = some (.int .i64 (j : Int))) wx) := Lib.hid (fun wx hx => ⟨hx, (hC2.below hx).cells.1, (hC2.below hx).cells.2.1⟩)
          clear hcd hrv hvn h34 h92 hTl
          obtain ⟨T, hT⟩ : ∃ T, l.drop j = T := ⟨_, rfl⟩
          rw [hT] at hgx HRE
          have HT := Lib.hid hT
          clear hT
          by_cases hn0 : n = 0
          · have a3 : ((n : Int) == 0) = true := by rw [beq_iff_eq]; omega
            have a3n : (n == 0) = true := by rw [beq_iff_eq]; exact hn0
            rw [if_pos hn0] at hsq
            have hN : Hid (N = 0) := Lib.hid (by
              have := hst.out
              rw [quo_bad hsq] at this
              exact (congrArg Prod.snd this).symm)
            clear hsq hslen hn0
            go_upto_region 9 with fail
            refine wp_region_noPanic ?_
            refine wp_region_held_drew (S := fun wx => Below W2.heap.size W2 wx ∧ wx.cell? ⟨B, 0, none⟩ = some (.string ⟨l.toArray⟩) ∧ wx.cell? ⟨B, 1, none⟩ = some (.int .i64 (j : Int))) (by kernel_rfl) ?_ (fun hHeld => ?_)
            focus ((try dsimp only); (go_split_ands; refine K4.out _ ?_; repeat' (first | (with_reducible assumption) | (with_reducible exact Below.refl _ _) | (with_reducible refine Below.drew ?_) | (with_reducible refine below_drewN ?_ _) | (refine belowCall (wx := ?_) ?_ ?_; rotate_left 2; assumption))))
            try simp only [Act.put, List.setIfInBounds_toArray, List.set_cons_zero, List.set_cons_succ]
            refine wpAnyH_take (i := 0) (oi := { dst := some 52, op := Go.Op.move (Go.Operand.tmp 0), type := 85, pos := "row.go:123", after := #[], guard := none }) (v := ?_) rfl (by kernel_rfl) (by kernel_rfl) (by kernel_rfl) (fun _ _ _ h => h) (Or.inl ⟨by rfl, ?_⟩) (by assumption) ?_
            rotate_left
            focus ((intro w hSw; (try dsimp only at hSw); go_simp) <;> (with_reducible rfl))
            try simp only [Act.put, List.setIfInBounds_toArray, List.set_cons_zero, List.set_cons_succ]
            refine wpAnyH_take (i := 1) (oi := { dst := some 53, op := Go.Op.nilCheck (Go.Operand.tmp 52), type := 0, pos := "row.go:123", after := #[{ on := 0, ground := Go.Ground.data }], guard := none }) (v := ?_) rfl (by kernel_rfl) (by kernel_rfl) (by kernel_rfl) (fun _ _ _ h => h) (Or.inl ⟨by rfl, ?_⟩) (by assumption) ?_
            rotate_left
            focus ((intro w hSw; (try dsimp only at hSw); go_simp) <;> (with_reducible rfl))
            try simp only [Act.put, List.setIfInBounds_toArray, List.set_cons_zero, List.set_cons_succ]
            refine wpAnyH_take (i := 2) (oi := { dst := some 54, op := Go.Op.fieldAddr 58 (Go.Operand.tmp 53) 0, type := 0, pos := "row.go:123", after := #[{ on := 1, ground := Go.Ground.data }], guard := none }) (v := ?_) rfl (by kernel_rfl) (by kernel_rfl) (by kernel_rfl) (fun _ _ _ h => h) (Or.inl ⟨by rfl, ?_⟩) (by assumption) ?_
            rotate_left
            focus ((intro w hSw; (try dsimp only at hSw); go_simp) <;> (with_reducible rfl))
            try simp only [Act.put, List.setIfInBounds_toArray, List.set_cons_zero, List.set_cons_succ]
            refine wpAnyH_take (i := 3) (oi := { dst := some 55, op := Go.Op.load 9 (Go.Operand.tmp 54), type := 9, pos := "row.go:123", after := #[{ on := 2, ground := Go.Ground.data }], guard := none }) (v := ?_) rfl (by kernel_rfl) (by kernel_rfl) (by kernel_rfl) (fun _ _ _ h => h) (Or.inl ⟨by rfl, ?_⟩) (by assumption) ?_
            rotate_left
            focus ((intro w hSw; (try dsimp only at hSw); go_simp) <;> (with_reducible rfl))
            try simp only [Act.put, List.setIfInBounds_toArray, List.set_cons_zero, List.set_cons_succ]
            refine wpAnyH_take (i := 4) (oi := { dst := some 56, op := Go.Op.move (Go.Operand.tmp 0), type := 85, pos := "row.go:123", after := #[], guard := none }) (v := ?_) rfl (by kernel_rfl) (by kernel_rfl) (by kernel_rfl) (fun _ _ _ h => h) (Or.inl ⟨by rfl, ?_⟩) (by assumption) ?_
            rotate_left
            focus ((intro w hSw; (try dsimp only at hSw); go_simp) <;> (with_reducible rfl))
            try simp only [Act.put, List.setIfInBounds_toArray, List.set_cons_zero, List.set_cons_succ]
            refine wpAnyH_take (i := 5) (oi := { dst := some 57, op := Go.Op.nilCheck (Go.Operand.tmp 56), type := 0, pos := "row.go:123", after := #[{ on := 4, ground := Go.Ground.data }], guard := none }) (v := ?_) rfl (by kernel_rfl) (by kernel_rfl) (by kernel_rfl) (fun _ _ _ h => h) (Or.inl ⟨by rfl, ?_⟩) (by assumption) ?_
            rotate_left
            focus ((intro w hSw; (try dsimp only at hSw); go_simp) <;> (with_reducible rfl))
            try simp only [Act.put, List.setIfInBounds_toArray, List.set_cons_zero, List.set_cons_succ]
            refine wpAnyH_take (i := 6) (oi := { dst := some 58, op := Go.Op.fieldAddr 58 (Go.Operand.tmp 57) 1, type := 0, pos := "row.go:123", after := #[{ on := 5, ground := Go.Ground.data }], guard := none }) (v := ?_) rfl (by kernel_rfl) (by kernel_rfl) (by kernel_rfl) (fun _ _ _ h => h) (Or.inl ⟨by rfl, ?_⟩) (by assumption) ?_
            rotate_left
            focus ((intro w hSw; (try dsimp only at hSw); go_simp) <;> (with_reducible rfl))
            try simp only [Act.put, List.setIfInBounds_toArray, List.set_cons_zero, List.set_cons_succ]
            refine wpAnyH_take (i := 7) (oi := { dst := some 59, op := Go.Op.load 3 (Go.Operand.tmp 58), type := 3, pos := "row.go:123", after := #[{ on := 6, ground := Go.Ground.data }], guard := none }) (v := ?_) rfl (by kernel_rfl) (by kernel_rfl) (by kernel_rfl) (fun _ _ _ h => h) (Or.inl ⟨by rfl, ?_⟩) (by assumption) ?_
            rotate_left
            focus ((intro w hSw; (try dsimp only at hSw); go_simp) <;> (with_reducible rfl))
            try simp only [Act.put, List.setIfInBounds_toArray, List.set_cons_zero, List.set_cons_succ]
            refine wpAnyH_take (i := 8) (oi := { dst := some 60, op := Go.Op.slice 9 (Go.Operand.tmp 55) (some (Go.Operand.tmp 59)) none none, type := 9, pos := "row.go:123", after := #[{ on := 3, ground := Go.Ground.data }, { on := 7, ground := Go.Ground.data }], guard := none }) (v := ?_) rfl (by kernel_rfl) (by kernel_rfl) (by kernel_rfl) (fun _ _ _ h => h) (Or.inl ⟨by rfl, ?_⟩) (by assumption) ?_
            rotate_left
            focus ((intro w hSw; (try dsimp only at hSw); go_simp) <;> (with_reducible rfl))
            try simp only [Act.put, List.setIfInBounds_toArray, List.set_cons_zero, List.set_cons_succ]
            refine wpAnyH_ready (rs := [9]) (by kernel_rfl) (by simp) ?_
            refine AllReadyH.cons (o := { dst := some 61, op := Go.Op.call { callee := Go.Callee.value (Go.Operand.func 68), args := #[Go.Operand.tmp 60], argTypes := #[9] }, type := 99, pos := "row.go:123", after := #[{ on := 8, ground := Go.Ground.data }], guard := none }) rfl (fun K hK => ?_) AllReadyH.nil
            go_simp
            (go_at_call 68; refine (HRE.out _ (by repeat' (first | exact hHeld.1 | refine Below.drew ?_))).mono ?_; rintro e w5 ⟨rfl, hb⟩)
            first | (go_wp2_with fail) | skip
            refine hK.out _ _ ?_ (fun hNew => ?_)
            focus ((try dsimp only); (go_split_ands; refine K4.out _ ?_; repeat' (first | (with_reducible assumption) | (with_reducible exact Below.refl _ _) | (with_reducible refine Below.drew ?_) | (with_reducible refine below_drewN ?_ _) | (refine belowCall (wx := ?_) ?_ ?_; rotate_left 2; assumption))))
            clear hK K hHeld
            have hHeld := hNew
            clear hNew
            try simp only [Act.put, List.setIfInBounds_toArray, List.set_cons_zero, List.set_cons_succ]
            refine wpAnyH_take (i := 10) (oi := { dst := some 51, op := Go.Op.move (Go.Operand.tmp 61), type := 99, pos := "row.go:123", after := #[{ on := 9, ground := Go.Ground.data }], guard := none }) (v := ?_) rfl (by kernel_rfl) (by kernel_rfl) (by kernel_rfl) (fun _ _ _ h => h) (Or.inl ⟨by rfl, ?_⟩) (by assumption) ?_
            rotate_left
            focus ((intro w hSw; (try dsimp only at hSw); go_simp) <;> (with_reducible rfl))
            try simp only [Act.put, List.setIfInBounds_toArray, List.set_cons_zero, List.set_cons_succ]
            refine wpAnyH_take (i := 11) (oi := { dst := some 62, op := Go.Op.extract (Go.Operand.tmp 51) 0, type := 5, pos := "row.go:123", after := #[{ on := 10, ground := Go.Ground.data }], guard := none }) (v := ?_) rfl (by kernel_rfl) (by kernel_rfl) (by kernel_rfl) (fun _ _ _ h => h) (Or.inl ⟨by rfl, ?_⟩) (by assumption) ?_
            rotate_left
            focus ((intro w hSw; (try dsimp only at hSw); go_simp) <;> (with_reducible rfl))
            try simp only [Act.put, List.setIfInBounds_toArray, List.set_cons_zero, List.set_cons_succ]
            refine wpAnyH_take (i := 13) (oi := { dst := some 6, op := Go.Op.assign (Go.Operand.tmp 62), type := 5, pos := "row.go:123", after := #[{ on := 11, ground := Go.Ground.data }, { on := 9, ground := Go.Ground.chain }, { on := 0, ground := Go.Ground.phase }, { on := 1, ground := Go.Ground.phase }, { on := 2, ground := Go.Ground.phase }, { on := 3, ground := Go.Ground.phase }, { on := 4, ground := Go.Ground.phase }, { on := 5, ground := Go.Ground.phase }, { on := 6, ground := Go.Ground.phase }, { on := 7, ground := Go.Ground.phase }, { on := 8, ground := Go.Ground.phase }, { on := 9, ground := Go.Ground.phase }, { on := 10, ground := Go.Ground.phase }, { on := 11, ground := Go.Ground.phase }, { on := 12, ground := Go.Ground.textOnly Go.Departure.lateStores }], guard := none }) (v := ?_) rfl (by kernel_rfl) (by kernel_rfl) (by kernel_rfl) (fun _ _ _ h => h) (Or.inl ⟨by rfl, ?_⟩) (by assumption) ?_
            rotate_left
            focus ((intro w hSw; (try dsimp only at hSw); go_simp) <;> (with_reducible rfl))
            try simp only [Act.put, List.setIfInBounds_toArray, List.set_cons_zero, List.set_cons_succ]
            refine wpAnyH_take (i := 12) (oi := { dst := some 63, op := Go.Op.extract (Go.Operand.tmp 51) 1, type := 3, pos := "row.go:123", after := #[{ on := 10, ground := Go.Ground.data }, { on := 13, ground := Go.Ground.gcOnly Go.Departure.lateStores }], guard := none }) (v := ?_) rfl (by kernel_rfl) (by kernel_rfl) (by kernel_rfl) (fun _ _ _ h => h) (Or.inl ⟨by rfl, ?_⟩) (by assumption) ?_
            rotate_left
            focus ((intro w hSw; (try dsimp only at hSw); go_simp) <;> (with_reducible rfl))
            try simp only [Act.put, List.setIfInBounds_toArray, List.set_cons_zero, List.set_cons_succ]
            refine wpAnyH_take (i := 14) (oi := { dst := some 7, op := Go.Op.assign (Go.Operand.tmp 63), type := 3, pos := "row.go:123", after := #[{ on := 12, ground := Go.Ground.data }, { on := 13, ground := Go.Ground.chain }, { on := 0, ground := Go.Ground.phase }, { on := 1, ground := Go.Ground.phase }, { on := 2, ground := Go.Ground.phase }, { on := 3, ground := Go.Ground.phase }, { on := 4, ground := Go.Ground.phase }, { on := 5, ground := Go.Ground.phase }, { on := 6, ground := Go.Ground.phase }, { on := 7, ground := Go.Ground.phase }, { on := 8, ground := Go.Ground.phase }, { on := 9, ground := Go.Ground.phase }, { on := 10, ground := Go.Ground.phase }, { on := 11, ground := Go.Ground.phase }, { on := 12, ground := Go.Ground.phase }, { on := 13, ground := Go.Ground.phase }], guard := none }) (v := ?_) rfl (by kernel_rfl) (by kernel_rfl) (by kernel_rfl) (fun _ _ _ h => h) (Or.inl ⟨by rfl, ?_⟩) (by assumption) ?_
            rotate_left
            focus ((intro w hSw; (try dsimp only at hSw); go_simp) <;> (with_reducible rfl))
            try simp only [Act.put, List.setIfInBounds_toArray, List.set_cons_zero, List.set_cons_succ]
            refine wpAnyH_done (by kernel_rfl) ?_ _
            refine NoPanic.normal ?_
            rename World => W3
            have hB3 := Lib.hid hHeld.1
            have hC3 := Lib.hid (hC2.below hB3.out)
            clear hHeld c0 c1 f1
            go_wp2_with fail
            rw [Exit.noGoto_ret]
            go_ret2
            exact ⟨HBAD.out hN.out _ j hj hC3.out, hG2.trans (Below.but hB3.out _)⟩
          · have a3 : ((n : Int) == 0) = false := by rw [beq_eq_false_iff_ne]; omega
            have a3n : (n == 0) = false := by rw [beq_eq_false_iff_ne]; exact hn0
            rw [if_neg hn0] at hsq
            obtain ⟨m, hm⟩ : ∃ m, n = m + 1 := ⟨n - 1, by omega⟩
            rw [hsq] at hslen
            rw [hm] at hsq
            have hjn : j + n ≤ l.length := by have : n ≤ (l.drop j).length := hslen; simp at this; omega
            have hnext : Hid (quoR (O ++ [UInt8.ofNat v]) (j + n - k) (quo (l.drop (j + n))) = (S, N)) := Lib.hid (by
              rw [← hst.out, quo_more HNE.out hsq, quoR_more, List.drop_drop, hm, show j - k + (m + 1) = j + (m + 1) - k by have := HK1.out; omega])
            have henc : Hid (Value.int .u8 (v : Int) = encU (UInt8.ofNat v)) := Lib.hid (by unfold encU; congr 1; simp; omega)
            have hn1 : 1 ≤ n := by omega
            obtain ⟨j1, hj1⟩ : ∃ j1, j + n = j1 := ⟨_, rfl⟩
            have p1 : IntKind.i64.wrap ((j : Int) + (n : Int)) = (j1 : Int) := by rw [IntKind.wrap_i64]; omega
            have p1b : (j : Int) + (n : Int) = (j1 : Int) := by omega
            rw [hj1] at hnext hjn
            have HJ1 := Lib.hid hj1
            clear hsq hslen hn0 hm hj1
            go_upto_region 9 with fail
            refine wp_region_noPanic ?_
            refine wp_region_held_drew (S := fun wx => Below W2.heap.size W2 wx ∧ wx.cell? ⟨B, 0, none⟩ = some (.string ⟨l.toArray⟩) ∧ wx.cell? ⟨B, 1, none⟩ = some (.int .i64 (j : Int))) (by kernel_rfl) ?_ (fun hHeld => ?_)
            focus ((try dsimp only); (go_split_ands; refine K4.out _ ?_; repeat' (first | (with_reducible assumption) | (with_reducible exact Below.refl _ _) | (with_reducible refine Below.drew ?_) | (with_reducible refine below_drewN ?_ _) | (refine belowCall (wx := ?_) ?_ ?_; rotate_left 2; assumption))))
            try simp only [Act.put, List.setIfInBounds_toArray, List.set_cons_zero, List.set_cons_succ]
            refine wpAnyH_take (i := 0) (oi := { dst := some 52, op := Go.Op.move (Go.Operand.tmp 0), type := 85, pos := "row.go:123", after := #[], guard := none }) (v := ?_) rfl (by kernel_rfl) (by kernel_rfl) (by kernel_rfl) (fun _ _ _ h => h) (Or.inl ⟨by rfl, ?_⟩) (by assumption) ?_
            rotate_left
            focus ((intro w hSw; (try dsimp only at hSw); go_simp) <;> (with_reducible rfl))
            try simp only [Act.put, List.setIfInBounds_toArray, List.set_cons_zero, List.set_cons_succ]
            refine wpAnyH_take (i := 1) (oi := { dst := some 53, op := Go.Op.nilCheck (Go.Operand.tmp 52), type := 0, pos := "row.go:123", after := #[{ on := 0, ground := Go.Ground.data }], guard := none }) (v := ?_) rfl (by kernel_rfl) (by kernel_rfl) (by kernel_rfl) (fun _ _ _ h => h) (Or.inl ⟨by rfl, ?_⟩) (by assumption) ?_
            rotate_left
            focus ((intro w hSw; (try dsimp only at hSw); go_simp) <;> (with_reducible rfl))
            try simp only [Act.put, List.setIfInBounds_toArray, List.set_cons_zero, List.set_cons_succ]
            refine wpAnyH_take (i := 2) (oi := { dst := some 54, op := Go.Op.fieldAddr 58 (Go.Operand.tmp 53) 0, type := 0, pos := "row.go:123", after := #[{ on := 1, ground := Go.Ground.data }], guard := none }) (v := ?_) rfl (by kernel_rfl) (by kernel_rfl) (by kernel_rfl) (fun _ _ _ h => h) (Or.inl ⟨by rfl, ?_⟩) (by assumption) ?_
            rotate_left
            focus ((intro w hSw; (try dsimp only at hSw); go_simp) <;> (with_reducible rfl))
            try simp only [Act.put, List.setIfInBounds_toArray, List.set_cons_zero, List.set_cons_succ]
            refine wpAnyH_take (i := 3) (oi := { dst := some 55, op := Go.Op.load 9 (Go.Operand.tmp 54), type := 9, pos := "row.go:123", after := #[{ on := 2, ground := Go.Ground.data }], guard := none }) (v := ?_) rfl (by kernel_rfl) (by kernel_rfl) (by kernel_rfl) (fun _ _ _ h => h) (Or.inl ⟨by rfl, ?_⟩) (by assumption) ?_
            rotate_left
            focus ((intro w hSw; (try dsimp only at hSw); go_simp) <;> (with_reducible rfl))
            try simp only [Act.put, List.setIfInBounds_toArray, List.set_cons_zero, List.set_cons_succ]
            refine wpAnyH_take (i := 4) (oi := { dst := some 56, op := Go.Op.move (Go.Operand.tmp 0), type := 85, pos := "row.go:123", after := #[], guard := none }) (v := ?_) rfl (by kernel_rfl) (by kernel_rfl) (by kernel_rfl) (fun _ _ _ h => h) (Or.inl ⟨by rfl, ?_⟩) (by assumption) ?_
            rotate_left
            focus ((intro w hSw; (try dsimp only at hSw); go_simp) <;> (with_reducible rfl))
            try simp only [Act.put, List.setIfInBounds_toArray, List.set_cons_zero, List.set_cons_succ]
            refine wpAnyH_take (i := 5) (oi := { dst := some 57, op := Go.Op.nilCheck (Go.Operand.tmp 56), type := 0, pos := "row.go:123", after := #[{ on := 4, ground := Go.Ground.data }], guard := none }) (v := ?_) rfl (by kernel_rfl) (by kernel_rfl) (by kernel_rfl) (fun _ _ _ h => h) (Or.inl ⟨by rfl, ?_⟩) (by assumption) ?_
            rotate_left
            focus ((intro w hSw; (try dsimp only at hSw); go_simp) <;> (with_reducible rfl))
            try simp only [Act.put, List.setIfInBounds_toArray, List.set_cons_zero, List.set_cons_succ]
            refine wpAnyH_take (i := 6) (oi := { dst := some 58, op := Go.Op.fieldAddr 58 (Go.Operand.tmp 57) 1, type := 0, pos := "row.go:123", after := #[{ on := 5, ground := Go.Ground.data }], guard := none }) (v := ?_) rfl (by kernel_rfl) (by kernel_rfl) (by kernel_rfl) (fun _ _ _ h => h) (Or.inl ⟨by rfl, ?_⟩) (by assumption) ?_
            rotate_left
            focus ((intro w hSw; (try dsimp only at hSw); go_simp) <;> (with_reducible rfl))
            try simp only [Act.put, List.setIfInBounds_toArray, List.set_cons_zero, List.set_cons_succ]
            refine wpAnyH_take (i := 7) (oi := { dst := some 59, op := Go.Op.load 3 (Go.Operand.tmp 58), type := 3, pos := "row.go:123", after := #[{ on := 6, ground := Go.Ground.data }], guard := none }) (v := ?_) rfl (by kernel_rfl) (by kernel_rfl) (by kernel_rfl) (fun _ _ _ h => h) (Or.inl ⟨by rfl, ?_⟩) (by assumption) ?_
            rotate_left
            focus ((intro w hSw; (try dsimp only at hSw); go_simp) <;> (with_reducible rfl))
            try simp only [Act.put, List.setIfInBounds_toArray, List.set_cons_zero, List.set_cons_succ]
            refine wpAnyH_take (i := 8) (oi := { dst := some 60, op := Go.Op.slice 9 (Go.Operand.tmp 55) (some (Go.Operand.tmp 59)) none none, type := 9, pos := "row.go:123", after := #[{ on := 3, ground := Go.Ground.data }, { on := 7, ground := Go.Ground.data }], guard := none }) (v := ?_) rfl (by kernel_rfl) (by kernel_rfl) (by kernel_rfl) (fun _ _ _ h => h) (Or.inl ⟨by rfl, ?_⟩) (by assumption) ?_
            rotate_left
            focus ((intro w hSw; (try dsimp only at hSw); go_simp) <;> (with_reducible rfl))
            try simp only [Act.put, List.setIfInBounds_toArray, List.set_cons_zero, List.set_cons_succ]
            refine wpAnyH_ready (rs := [9]) (by kernel_rfl) (by simp) ?_
            refine AllReadyH.cons (o := { dst := some 61, op := Go.Op.call { callee := Go.Callee.value (Go.Operand.func 68), args := #[Go.Operand.tmp 60], argTypes := #[9] }, type := 99, pos := "row.go:123", after := #[{ on := 8, ground := Go.Ground.data }], guard := none }) rfl (fun K hK => ?_) AllReadyH.nil
            go_simp
            (go_at_call 68; refine (HRE.out _ (by repeat' (first | exact hHeld.1 | refine Below.drew ?_))).mono ?_; rintro e w5 ⟨rfl, hb⟩)
            first | (go_wp2_with fail) | skip
            refine hK.out _ _ ?_ (fun hNew => ?_)
            focus ((try dsimp only); (go_split_ands; refine K4.out _ ?_; repeat' (first | (with_reducible assumption) | (with_reducible exact Below.refl _ _) | (with_reducible refine Below.drew ?_) | (with_reducible refine below_drewN ?_ _) | (refine belowCall (wx := ?_) ?_ ?_; rotate_left 2; assumption))))
            clear hK K hHeld
            have hHeld := hNew
            clear hNew
            try simp only [Act.put, List.setIfInBounds_toArray, List.set_cons_zero, List.set_cons_succ]
            refine wpAnyH_take (i := 10) (oi := { dst := some 51, op := Go.Op.move (Go.Operand.tmp 61), type := 99, pos := "row.go:123", after := #[{ on := 9, ground := Go.Ground.data }], guard := none }) (v := ?_) rfl (by kernel_rfl) (by kernel_rfl) (by kernel_rfl) (fun _ _ _ h => h) (Or.inl ⟨by rfl, ?_⟩) (by assumption) ?_
            rotate_left
            focus ((intro w hSw; (try dsimp only at hSw); go_simp) <;> (with_reducible rfl))
            try simp only [Act.put, List.setIfInBounds_toArray, List.set_cons_zero, List.set_cons_succ]
            refine wpAnyH_take (i := 11) (oi := { dst := some 62, op := Go.Op.extract (Go.Operand.tmp 51) 0, type := 5, pos := "row.go:123", after := #[{ on := 10, ground := Go.Ground.data }], guard := none }) (v := ?_) rfl (by kernel_rfl) (by kernel_rfl) (by kernel_rfl) (fun _ _ _ h => h) (Or.inl ⟨by rfl, ?_⟩) (by assumption) ?_
            rotate_left
            focus ((intro w hSw; (try dsimp only at hSw); go_simp) <;> (with_reducible rfl))
            try simp only [Act.put, List.setIfInBounds_toArray, List.set_cons_zero, List.set_cons_succ]
            refine wpAnyH_take (i := 13) (oi := { dst := some 6, op := Go.Op.assign (Go.Operand.tmp 62), type := 5, pos := "row.go:123", after := #[{ on := 11, ground := Go.Ground.data }, { on := 9, ground := Go.Ground.chain }, { on := 0, ground := Go.Ground.phase }, { on := 1, ground := Go.Ground.phase }, { on := 2, ground := Go.Ground.phase }, { on := 3, ground := Go.Ground.phase }, { on := 4, ground := Go.Ground.phase }, { on := 5, ground := Go.Ground.phase }, { on := 6, ground := Go.Ground.phase }, { on := 7, ground := Go.Ground.phase }, { on := 8, ground := Go.Ground.phase }, { on := 9, ground := Go.Ground.phase }, { on := 10, ground := Go.Ground.phase }, { on := 11, ground := Go.Ground.phase }, { on := 12, ground := Go.Ground.textOnly Go.Departure.lateStores }], guard := none }) (v := ?_) rfl (by kernel_rfl) (by kernel_rfl) (by kernel_rfl) (fun _ _ _ h => h) (Or.inl ⟨by rfl, ?_⟩) (by assumption) ?_
            rotate_left
            focus ((intro w hSw; (try dsimp only at hSw); go_simp) <;> (with_reducible rfl))
            try simp only [Act.put, List.setIfInBounds_toArray, List.set_cons_zero, List.set_cons_succ]
            refine wpAnyH_take (i := 12) (oi := { dst := some 63, op := Go.Op.extract (Go.Operand.tmp 51) 1, type := 3, pos := "row.go:123", after := #[{ on := 10, ground := Go.Ground.data }, { on := 13, ground := Go.Ground.gcOnly Go.Departure.lateStores }], guard := none }) (v := ?_) rfl (by kernel_rfl) (by kernel_rfl) (by kernel_rfl) (fun _ _ _ h => h) (Or.inl ⟨by rfl, ?_⟩) (by assumption) ?_
            rotate_left
            focus ((intro w hSw; (try dsimp only at hSw); go_simp) <;> (with_reducible rfl))
            try simp only [Act.put, List.setIfInBounds_toArray, List.set_cons_zero, List.set_cons_succ]
            refine wpAnyH_take (i := 14) (oi := { dst := some 7, op := Go.Op.assign (Go.Operand.tmp 63), type := 3, pos := "row.go:123", after := #[{ on := 12, ground := Go.Ground.data }, { on := 13, ground := Go.Ground.chain }, { on := 0, ground := Go.Ground.phase }, { on := 1, ground := Go.Ground.phase }, { on := 2, ground := Go.Ground.phase }, { on := 3, ground := Go.Ground.phase }, { on := 4, ground := Go.Ground.phase }, { on := 5, ground := Go.Ground.phase }, { on := 6, ground := Go.Ground.phase }, { on := 7, ground := Go.Ground.phase }, { on := 8, ground := Go.Ground.phase }, { on := 9, ground := Go.Ground.phase }, { on := 10, ground := Go.Ground.phase }, { on := 11, ground := Go.Ground.phase }, { on := 12, ground := Go.Ground.phase }, { on := 13, ground := Go.Ground.phase }], guard := none }) (v := ?_) rfl (by kernel_rfl) (by kernel_rfl) (by kernel_rfl) (fun _ _ _ h => h) (Or.inl ⟨by rfl, ?_⟩) (by assumption) ?_
            rotate_left
            focus ((intro w hSw; (try dsimp only at hSw); go_simp) <;> (with_reducible rfl))
            try simp only [Act.put, List.setIfInBounds_toArray, List.set_cons_zero, List.set_cons_succ]
            refine wpAnyH_done (by kernel_rfl) ?_ _
            refine NoPanic.normal ?_
            rename World => W3
            have hB3 := hHeld.1
            have hC3 := hC2.below hB3
            have ho3 := own_belowR ho2 hB3
            have hG3 := hG2.trans (Below.but hB3 (some B))
            have hsz3 := hG3.size
            have HG3 := Lib.hid hG3
            clear hHeld c0 c1 f1 hB3 hG3
            go_wp2_with (at_builtin; refine wpList_append_own _ rfl _ _ 65 rfl w.heap.size 5 i0 (.int .u8 0) 1 1 Tryd.underlying65 hi hz0 hz1 hz2 rfl (by decide) _ _ _ rfl (ho3.alloc _) ⟨_, 0, none⟩ 1 1 [.int .u8 (v : Int)] rfl rfl (cell_news _ _ _) (by simp [Value.oneCell']) (by unfold maxLen; omega) (by omega) (by simp; omega) ?_; intro v' W4 hown' hgrow _; have hC4 := Lib.hid (CBlk.kept (CBlk.alloc hC3 (.cells #[.int .u8 (v : Int)] 5)) hgrow (CBlk.not_row (CBlk.alloc hC3 (.cells #[.int .u8 (v : Int)] 5)) (by decide) (World.ownsRow.alloc ho3 (.cells #[.int .u8 (v : Int)] 5)))); have HGR := Lib.hid hgrow; have HO4 := Lib.hid hown'; clear hown' hgrow; obtain ⟨c0, c1, -⟩ := Cur.cells hC4.out; have f1 := CBlk.free hC4.out 1)
            have hC5 : Cur (World.setCell W4 ⟨B, 1, none⟩ (.int .i64 (j1 : Int))) B l j1 f := Cur.to (w := W4) (k := j) hC4.out j1
            have hG4 : w.grownBy W4 (some B) := (HG3.out.trans (World.grownBy_alloc W3 (.cells #[.int .u8 (v : Int)] 5) _)).andThen HGR.out (fun r hr => .inl (ho3.lt r hr).1)
            go_roundw
            case rel =>
              refine ⟨j1, O ++ [UInt8.ofNat v], by have := HJ1.out; omega, hjn, by have := HJ1.out; rw [List.length_append]; simp; omega, Lib.hid ?_, Lib.hid hC5, Lib.hid (hG4.trans (grown_at W4 B 1 _)), hnext⟩
              refine own_store (t := 60) ?_ hC4.out (by decide) 1 _
              rw [List.length_append, List.map_append]
              have := HO4.out
              rw [henc.out] at this
              exact this
            case measure => rw [hpos.out, hC5.pos]; have := HJ1.out; omega
        · have a2 : ((y : Int) == 92) = false := by rw [beq_eq_false_iff_ne]; omega
          have a2n : (y == 92) = false := by rw [beq_eq_false_iff_ne]; exact h92
          by_cases hp : 32 ≤ y ∧ y ≤ 126
          · have HP : Hid (prN y = true) := Lib.hid (by unfold prN; simp only [Bool.and_eq_true, decide_eq_true_eq]; omega)
            have hsp := step_plain hlt (by rw [HX.out]; exact h34) (by rw [HX.out]; omega) (by rw [HX.out]; exact h92)
            have hnext : Hid (quoR (O ++ [x]) (j + 1 - k) (quo (l.drop (j + 1))) = (S, N)) := Lib.hid (by
              rw [← hst.out, quo_more (m := 0) HNE.out hsp, quoR_more, List.drop_drop, HXX.out, HKJ.out])
            have henc : Hid (Value.int .u8 (y : Int) = encU x) := Lib.hid (by unfold encU; rw [HYY.out])
            obtain ⟨j1, hj1⟩ : ∃ j1, j + 1 = j1 := ⟨_, rfl⟩
            rw [hj1] at hnext q1 q1b
            have hj1l : j1 ≤ l.length := by omega
            have HJ1 := Lib.hid hj1
            clear hsp h34 h92 hp hj1
            go_wp2_with fail
            refine (printed_any _ hy2 _).mono ?_
            rintro e w' ⟨rfl, rfl⟩
            rw [HP.out]
            have HG3 := Lib.hid hG2
            clear c0 c1 f1 hG2
            go_wp2_with (at_builtin; refine wpList_append_own _ rfl _ _ 65 rfl w.heap.size 5 i0 (.int .u8 0) 1 1 Tryd.underlying65 hi hz0 hz1 hz2 rfl (by decide) _ _ _ rfl (ho2.alloc _) ⟨_, 0, none⟩ 1 1 [.int .u8 (y : Int)] rfl rfl (cell_news _ _ _) (by simp [Value.oneCell']) (by unfold maxLen; omega) (by omega) (by simp; omega) ?_; intro v' W4 hown' hgrow _; have hC4 := Lib.hid (CBlk.kept (CBlk.alloc hC2 (.cells #[.int .u8 (y : Int)] 5)) hgrow (CBlk.not_row (CBlk.alloc hC2 (.cells #[.int .u8 (y : Int)] 5)) (by decide) (World.ownsRow.alloc ho2 (.cells #[.int .u8 (y : Int)] 5)))); have HGR := Lib.hid hgrow; have HO4 := Lib.hid hown'; clear hown' hgrow; obtain ⟨c0, c1, -⟩ := Cur.cells hC4.out; have f1 := CBlk.free hC4.out 1)
            have hC5 : Cur (World.setCell W4 ⟨B, 1, none⟩ (.int .i64 (j1 : Int))) B l j1 f := Cur.to (w := W4) (k := j) hC4.out j1
            have hG4 : w.grownBy W4 (some B) := (HG3.out.trans (World.grownBy_alloc W2 (.cells #[.int .u8 (y : Int)] 5) _)).andThen HGR.out (fun r hr => .inl (ho2.lt r hr).1)
            go_roundw
            case rel =>
              refine ⟨j1, O ++ [x], by have := HJ1.out; omega, hj1l, by have := HJ1.out; rw [List.length_append]; simp; omega, Lib.hid ?_, Lib.hid hC5, Lib.hid (hG4.trans (grown_at W4 B 1 _)), hnext⟩
              refine own_store (t := 60) ?_ hC4.out (by decide) 1 _
              rw [List.length_append, List.map_append]
              have := HO4.out
              rw [henc.out] at this
              exact this
            case measure => rw [hpos.out, hC5.pos]; have := HJ1.out; omega
          · have HP : Hid (prN y = false) := Lib.hid (by unfold prN; simp only [Bool.and_eq_false_iff, decide_eq_false_iff_not]; omega)
            have hN : Hid (N = 0) := Lib.hid (by
              have := hst.out
              rw [quo_bad (step_bad hlt (by rw [HX.out]; exact h34) (by rw [HX.out]; omega))] at this
              exact (congrArg Prod.snd this).symm)
            clear h34 h92 hp
            go_wp2_with fail
            refine (printed_any _ hy2 _).mono ?_
            rintro e w' ⟨rfl, rfl⟩
            rw [HP.out]
            go_wp2_with fail
            rw [Exit.noGoto_ret]
            go_ret2
            exact ⟨HBAD.out hN.out _ j hj hC2, hG2⟩
    · have d1 : decide ((j : Int) < (l.length : Int)) = false := decide_eq_false (by omega)
      have d1n : decide (j < l.length) = false := decide_eq_false hlt
      have hN : Hid (N = 0) := Lib.hid (by
        have := hst.out
        rw [List.drop_eq_nil_of_le (by omega), quo_nil] at this
        exact (congrArg Prod.snd this).symm)
      go_wp2_with fail
      go_quiet (fail)
      go_wp2_with fail
      rw [Exit.noGoto_ret]
      go_ret2
      exact ⟨HBAD.out hN.out _ j hj hC.out, grown_drewN hG.out _⟩
end Go.Proofs.YtacceiloggnekaaDoor
