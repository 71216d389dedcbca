/-
  The law LineCuts returns true for every input.
-/
import Derived.Test.YtfagjhadfonhdaaLPure
import Derived.Test.YtfagjhadfonhdaaLHelp
import Derived.Test.YtfagjhadfonhdaaLQOne
import Derived.Deep.RegionWith
namespace Go.Proofs.Ytfagjhadfonhdaa
open Go.RowKit
theorem lba_cut (l : List UInt8) (f k : Nat) : (ByteArray.mk l.toArray).extract f k = ⟨((l.take k).drop f).toArray⟩ := by
  apply ByteArray.ext
  rw [ByteArray.data_extract, List.extract_toArray, List.extract_eq_take_drop]
  simp [List.drop_take]
theorem drop_cut (l : List UInt8) (f k : Nat) (h : f ≤ k) : (l.take k).drop f ++ l.drop k = l.drop f := by
  have : l.drop f = (l.take k ++ l.drop k).drop f := by rw [List.take_append_drop]
  rw [this, List.drop_append]
  by_cases hk : k ≤ l.length
  · have : f - (l.take k).length = 0 := by rw [List.length_take]; omega
    rw [this, List.drop_zero]
  · have hd : l.drop k = [] := List.drop_eq_nil_of_le (by omega)
    rw [hd]
    simp
theorem spv_eta (s : Sp) : spC s = [.int .i64 s.lim, .string ⟨s.txt.toArray⟩, .bool s.lg] := rfl
theorem new_of (n : Int) (h1 : 1 ≤ n) (h2 : n ≤ 1536) : newV n = .tuple #[.agg #[.int .i64 n, .string ⟨#[]⟩, .bool false], .int .i64 0] := by
  unfold newV newR
  rw [if_neg (by omega)]
  rfl
theorem lbelow_st3 {w W : World} {B n : Nat} (hB : Below n w W) (h : n ≤ B) (u v x : Value) : Below n w (((W.setCell ⟨B, 0, none⟩ u).setCell ⟨B, 1, none⟩ v).setCell ⟨B, 2, none⟩ x) := below_store3 hB h u v x
theorem own_other3 {w : World} {base : Nat} {e : TypeId} {size k : Nat} {v : Value} {xs : List Value} (h : w.ownsRow base e size v k xs) (B : Nat) (hne : ∀ b, v.ownBlock = some b → b ≠ B) (x y z : Value) : (((w.setCell ⟨B, 0, none⟩ x).setCell ⟨B, 1, none⟩ y).setCell ⟨B, 2, none⟩ z).ownsRow base e size v k xs :=
  ownsRow_setCell_other (ownsRow_setCell_other (ownsRow_setCell_other h (fun h => hne _ h rfl) x) (fun h => hne _ h rfl) y) (fun h => hne _ h rfl) z
set_option maxRecDepth 100000 in
set_option maxHeartbeats 16000000 in
theorem cuts_law (s : List UInt8) (lim : Int) (cuts : List Int) (pc : Option Addr) (cc : Nat) (w : World) (hC : CellsIn w pc (cuts.length * 1) (intC fun j => cuts.getD j 0)) :
    Calls Try.prog 6 #[.string ⟨s.toArray⟩, .int .i64 lim, .slice pc cuts.length cc] w fun e w' => e = .returned (.bool true) ∧ Below w.heap.size w w' := by
  obtain ⟨i0, hi, hz0, hz1, hz2⟩ := linfo_parts infoLn
  have HC := Lib.hid hC
  clear hC
  by_cases hs : 300 < s.length
  · have d1 : decide ((300 : Int) < (s.length : Int)) = true := decide_eq_true (by omega)
    have hB := Below.refl w.heap.size w
    clear hs
    go_enter Try.func6, Try.ntmps6
    go_wp2_with fail
    refine (lawake_any _).mono ?_
    rintro e w1 ⟨rfl, hb⟩
    have hB := hB.trans (hb.mono hB.size)
    clear hb
    go_wp2_with fail
    go_ret
    exact ⟨rfl, hB⟩
  have d1 : decide ((300 : Int) < (s.length : Int)) = false := decide_eq_false (by omega)
  obtain ⟨m, hm⟩ : ∃ m, modI lim 100 = m := ⟨_, rfl⟩
  have hmr := modI_range lim 100 (by decide)
  rw [hm] at hmr
  have HM := Lib.hid hm
  obtain ⟨n, hn⟩ : ∃ n, 1 + m = n := ⟨_, rfl⟩
  have hw1 : IntKind.i64.wrap (1 + m) = n := by rw [lwrap64 (by omega) (by omega), hn]
  have h1n : 1 ≤ n := by omega
  have h2n : n ≤ 100 := by omega
  obtain ⟨⟨⟨fn, ft, fg⟩, F⟩, hF⟩ : ∃ z, feedL n [] s = z := ⟨_, rfl⟩
  have HF : Hid (feedR ⟨n, [], false⟩ s = ((⟨fn, ft, fg⟩, F), 0)) := Lib.hid (by unfold feedR; rw [if_pos (errS_of (by omega))]; dsimp only; rw [hF])
  have HF2 := Lib.hid hF
  have HG : Hid (goC n [] ⟨n, [], false⟩ s = (⟨fn, ft, fg⟩, F)) := Lib.hid (by unfold goC; dsimp only; rw [hF]; rfl)
  have HFL : Hid (F.length ≤ s.length) := Lib.hid (by have := feed_len n s []; rw [hF] at this; exact this)
  have HN := Lib.hid (new_of n h1n (by omega))
  clear hm hmr hn hF
  go_enter Try.func6, Try.ntmps6
  go_wp2_with fail
  refine (mod_any lim 100 (by decide) (by decide) _).mono ?_
  rintro e w' ⟨rfl, rfl⟩
  rw [HM.out]
  go_wp2_with fail
  refine (lnew_any n _).mono ?_
  rintro e w1 ⟨rfl, hb⟩
  rw [HN.out]
  have hB := hb
  clear hb
  obtain ⟨W2, hW2⟩ : ∃ W, w1.alloc (.cells #[.int .i64 n, .string ⟨#[]⟩, .bool false] 24) = W := ⟨_, rfl⟩
  have H7 := Lib.hid (show CBlk 24 W2 w1.heap.size [.int .i64 n, .string ⟨#[]⟩, .bool false] by rw [← hW2]; exact CBlk.new _ _ _)
  have HB := Lib.hid (show Below w.heap.size w W2 by rw [← hW2]; exact hB.alloc hB.size _)
  have HW := Lib.hid hW2
  clear hW2 hB
  go_upto_region 4 with fail
  rw [HW.out]
  clear HW
  obtain ⟨x0, x1, x2⟩ := H7.out.cells3
  go_wp2_with fail
  refine (lfeed_any ⟨n, [], false⟩ s (by simp) (by omega) _).mono ?_
  rintro e w3 ⟨⟨va, rfl, hva⟩, hb⟩
  rw [HF.out] at hva ⊢
  unfold spV
  dsimp only at hva ⊢
  rw [show ((0 : Nat) : Int) = 0 from rfl]
  have hva := hva.at'
  obtain ⟨pa, ca, rfl, -⟩ := id hva
  have HVA := Lib.hid hva
  have h7 := H7.out.below hb H7.out.lt
  have H73 := Lib.hid h7
  have HB := Lib.hid (HB.out.trans (hb.mono HB.out.size))
  have HLT7 := Lib.hid h7.lt
  clear hb hva x0 x1 x2
  -- whole and x
  obtain ⟨W4, hW4⟩ : ∃ W, w3.alloc (.cells #[.int .i64 fn, .string ⟨ft.toArray⟩, .bool fg] 24) = W := ⟨_, rfl⟩
  obtain ⟨b9, hb9⟩ : ∃ b, w3.heap.size = b := ⟨_, rfl⟩
  have h9 : CBlk 24 W4 b9 [.int .i64 fn, .string ⟨ft.toArray⟩, .bool fg] := by rw [← hW4, ← hb9]; exact CBlk.new _ _ _
  have h7 : CBlk 24 W4 w1.heap.size [.int .i64 n, .string ⟨#[]⟩, .bool false] := by rw [← hW4]; exact h7.alloc _
  have HX := Lib.hid (show Below w3.heap.size w3 W4 by rw [← hW4]; exact (Below.refl _ _).alloc (Nat.le_refl _) _)
  have HS4 : Hid (W4.heap.size = b9 + 1) := Lib.hid (by rw [← hW4, ← hb9]; simp)
  have HW := Lib.hid hW4
  have HB9 := Lib.hid hb9
  clear hW4 hb9
  go_upto_region 7 with fail
  rw [HW.out, HB9.out]
  clear HW
  obtain ⟨x0, x1, x2⟩ := h7.cells3
  have H7 := Lib.hid h7
  have H9 := Lib.hid h9
  clear h7 h9
  obtain ⟨W5, hW5⟩ : ∃ W, W4.alloc (.cells #[.int .i64 n, .string ⟨#[]⟩, .bool false] 24) = W := ⟨_, rfl⟩
  obtain ⟨bx, hbx⟩ : ∃ b, W4.heap.size = b := ⟨_, rfl⟩
  have HBX : Hid (bx = b9 + 1) := Lib.hid (by rw [← hbx]; exact HS4.out)
  have HX11 := Lib.hid (show CBlk 24 W5 bx (spC ⟨n, [], false⟩) by rw [← hW5, ← hbx]; exact CBlk.new _ _ _)
  have H9 := Lib.hid (show CBlk 24 W5 b9 [.int .i64 fn, .string ⟨ft.toArray⟩, .bool fg] by rw [← hW5]; exact H9.out.alloc _)
  have HX := Lib.hid (show Below w3.heap.size w3 W5 by rw [← hW5]; exact HX.out.alloc HX.out.size _)
  have HS5 : Hid (W5.heap.size = bx + 1) := Lib.hid (by rw [← hW5, ← hbx]; simp)
  have HW := Lib.hid hW5
  have HBXX := Lib.hid hbx
  clear hW5 hbx
  go_upto_region 10 with fail
  rw [HW.out, HBXX.out]
  clear HW
  go_upto_region 12 with fail
  go_wp2_with fail
  go_loopw [12, 13, 14] (fun o f i wr => ∃ (k q : Nat) (S : Sp) (O : List Ln), k ≤ s.length ∧ q ≤ k ∧ f = .int .i64 k ∧ i = .int .i64 q ∧ Left n S ∧ O.length ≤ k ∧ Hid (goC n O S (s.drop k) = (⟨fn, ft, fg⟩, F)) ∧ wr.ownsRow (bx + 1) 27 2 o O.length (lnsC O) ∧ CBlk 24 wr bx (spC S) ∧ CBlk 24 wr b9 [.int .i64 fn, .string ⟨ft.toArray⟩, .bool fg] ∧ Below w3.heap.size w3 wr) (fun _ f _ _ => s.length - (intOf f).toNat)
  case atStart => exact ⟨0, 0, ⟨n, [], false⟩, [], Nat.zero_le _, Nat.le_refl _, rfl, rfl, ⟨rfl, by simp; omega, rfl, fun _ => rfl⟩, Nat.le_refl _, HG, World.ownsRow_nil _ _ _ _, HX11.out, H9.out, HX.out⟩
  case round =>
    clear HG HX11 H9 HX
    obtain ⟨k, q, ⟨sn, st, sg⟩, O, hk, hq, rfl, rfl, hleft, hO, hp, hrow, h11, h9, hX⟩ := hrel
    unfold spC at h11
    dsimp only at h11
    obtain ⟨ov, oc, rfl⟩ := own_slice hrow
    obtain ⟨y0, y1, y2⟩ := h11.cells3
    obtain rfl : n = sn := hleft.1.symm
    by_cases hlt : k < s.length
    · have c1 : decide ((k : Int) < (s.length : Int)) = true := decide_eq_true (by omega)
      cases sg
      · have hBw := HB.out.trans (hX.mono HB.out.size)
        obtain ⟨v, hv⟩ : ∃ v, atI cuts q = v := ⟨_, rfl⟩
        obtain ⟨r, hr⟩ : ∃ r, modI v 9 = r := ⟨_, rfl⟩
        have hrr := modI_range v 9 (by decide)
        rw [hr] at hrr
        have HV := Lib.hid hv
        have HR := Lib.hid hr
        have w1 : IntKind.i64.wrap ((k : Int) + 1) = (k : Int) + 1 := lwrap64 (by omega) (by omega)
        have w2 : IntKind.i64.wrap ((k : Int) + 1 + r) = (k : Int) + 1 + r := lwrap64 (by omega) (by omega)
        have HH9 := Lib.hid h9
        have HROW := Lib.hid hrow
        have HLEFT := Lib.hid hleft
        clear hv hr h9 hrow hleft
        go_wp2_with fail
        refine (at_any cuts pc cc q (by omega) _ (HC.out.below hBw (Nat.le_refl _))).mono ?_
        rintro e w' ⟨rfl, rfl⟩
        rw [HV.out]
        go_wp2_with fail
        refine (mod_any v 9 (by decide) (by decide) _).mono ?_
        rintro e w' ⟨rfl, rfl⟩
        rw [HR.out]
        obtain ⟨j, hj, hj1, hj2⟩ : ∃ j : Nat, (if (k : Int) + 1 + r < (s.length : Int) then (k : Int) + 1 + r else (s.length : Int)) = (j : Int) ∧ k < j ∧ j ≤ s.length := by
          by_cases h : (k : Int) + 1 + r < (s.length : Int)
          · exact ⟨k + 1 + r.toNat, by rw [if_pos h]; omega, by omega, by omega⟩
          · exact ⟨s.length, by rw [if_neg h], by omega, Nat.le_refl _⟩
        have hjm : min (s.length : Int) ((k : Int) + 1 + r) = (j : Int) := by
          rw [← hj]
          split <;> omega
        have hj3 : (k : Int) ≤ (j : Int) := by omega
        have hj4 : (j : Int) ≤ (s.length : Int) := by omega
        obtain ⟨X, hX0⟩ : ∃ X, (s.take j).drop k = X := ⟨_, rfl⟩
        have hmid : (ByteArray.mk s.toArray).extract k j = ⟨X.toArray⟩ := by rw [lba_cut, hX0]
        have hXl : X.length = j - k := by rw [← hX0, List.length_drop, List.length_take]; omega
        have hXs : X ++ s.drop j = s.drop k := by rw [← hX0]; exact drop_cut s k j (by omega)
        have hp1 := hp.out
        rw [← hXs, goC_step rfl] at hp1
        dsimp only at hp1
        have hG1 := feed_left n (by omega) X st (by have := HLEFT.out.2.1; exact this) HLEFT.out.2.2.1
        have hGl := feed_len n X st
        obtain ⟨⟨⟨gn, gt, gg⟩, G⟩, hG⟩ : ∃ z, feedL n st X = z := ⟨_, rfl⟩
        rw [hG] at hp1 hG1 hGl
        dsimp only at hp1 hG1 hGl
        have HFX : Hid (feedR ⟨n, st, false⟩ X = ((⟨gn, gt, gg⟩, G), 0)) := Lib.hid (by unfold feedR; rw [if_pos (HLEFT.out.err h1n (by omega) rfl)]; dsimp only; rw [hG])
        have HP := Lib.hid hp1
        have HG1 := Lib.hid hG1
        have HGL := Lib.hid hGl
        have hstl : st.length < 100000 := by have := HLEFT.out.2.1; dsimp only at this; omega
        clear hp hp1 hG1 hGl hG hX0 hXs
        obtain ⟨b11, hb11⟩ : ∃ b, bx = b := ⟨_, rfl⟩
        have K4 : Hid (∀ wx, Below wr.heap.size wr wx → (fun wx => Below wr.heap.size wr wx ∧ wx.cell? ⟨bx, 0, none⟩ = some (.int .i64 n) ∧ wx.cell? ⟨bx, 1, none⟩ = some (.string ⟨st.toArray⟩) ∧ wx.cell? ⟨bx, 2, none⟩ = some (.bool false)) wx) := Lib.hid (fun wx hx => by
          have d := h11.below hx h11.lt
          exact ⟨hx, d.cells3.1, d.cells3.2.1, d.cells3.2.2⟩)
        clear hb11
        have H11 := Lib.hid h11
        have HXX := Lib.hid hX
        have HSZ := Lib.hid (show b9 < wr.heap.size ∧ bx < wr.heap.size from ⟨HH9.out.lt, h11.lt⟩)
        clear h11 hX hBw
        go_upto_region 16 with fail
        refine wp_region_noPanic ?_
        refine wp_region_held_drew (S := fun wx => Below wr.heap.size wr wx ∧ wx.cell? ⟨bx, 0, none⟩ = some (.int .i64 n) ∧ wx.cell? ⟨bx, 1, none⟩ = some (.string ⟨st.toArray⟩) ∧ wx.cell? ⟨bx, 2, none⟩ = some (.bool false)) (by kernel_rfl) ?_ (fun hHeld => ?_)
        focus ((try dsimp only); (refine K4.out _ ?_; repeat' (first | (with_reducible exact hHeld.1) | (with_reducible assumption) | (with_reducible exact Below.refl _ _) | (with_reducible refine Below.drew ?_) | (with_reducible refine lbelow_one _ ?_) | (with_reducible refine lbelow_st3 ?_ (Nat.le_refl _) _ _ _) | (refine lbelow_call (wx := ?_) ?_ ?_; rotate_left 2; assumption))))
        try simp only [Act.put, List.setIfInBounds_toArray, List.set_cons_zero, List.set_cons_succ]
        refine wpAnyH_take (i := 0) (oi := { dst := some 71, op := Go.Op.load 24 (Go.Operand.tmp 11), type := 24, pos := "outright.go:60", after := #[], guard := none }) (v := ?_) rfl (by kernel_rfl) (by kernel_rfl) (by kernel_rfl) (fun _ _ _ h => h) (Or.inl ⟨by rfl, ?_⟩) (by assumption) ?_
        rotate_left
        focus ((intro w hSw; (try dsimp only at hSw); go_simp) <;> (with_reducible rfl))
        try simp only [Act.put, List.setIfInBounds_toArray, List.set_cons_zero, List.set_cons_succ]
        refine wpAnyH_take (i := 1) (oi := { dst := some 72, op := Go.Op.move (Go.Operand.tmp 0), type := 9, pos := "outright.go:60", after := #[], guard := none }) (v := ?_) rfl (by kernel_rfl) (by kernel_rfl) (by kernel_rfl) (fun _ _ _ h => h) (Or.inl ⟨by rfl, ?_⟩) (by assumption) ?_
        rotate_left
        focus ((intro w hSw; (try dsimp only at hSw); go_simp) <;> (with_reducible rfl))
        try simp only [Act.put, List.setIfInBounds_toArray, List.set_cons_zero, List.set_cons_succ]
        refine wpAnyH_take (i := 2) (oi := { dst := some 73, op := Go.Op.move (Go.Operand.tmp 13), type := 3, pos := "outright.go:60", after := #[], guard := none }) (v := ?_) rfl (by kernel_rfl) (by kernel_rfl) (by kernel_rfl) (fun _ _ _ h => h) (Or.inl ⟨by rfl, ?_⟩) (by assumption) ?_
        rotate_left
        focus ((intro w hSw; (try dsimp only at hSw); go_simp) <;> (with_reducible rfl))
        try simp only [Act.put, List.setIfInBounds_toArray, List.set_cons_zero, List.set_cons_succ]
        refine wpAnyH_take (i := 3) (oi := { dst := some 74, op := Go.Op.move (Go.Operand.tmp 15), type := 3, pos := "outright.go:60", after := #[], guard := none }) (v := ?_) rfl (by kernel_rfl) (by kernel_rfl) (by kernel_rfl) (fun _ _ _ h => h) (Or.inl ⟨by rfl, ?_⟩) (by assumption) ?_
        rotate_left
        focus ((intro w hSw; (try dsimp only at hSw); go_simp) <;> (with_reducible rfl))
        try simp only [Act.put, List.setIfInBounds_toArray, List.set_cons_zero, List.set_cons_succ]
        refine wpAnyH_take (i := 4) (oi := { dst := some 75, op := Go.Op.slice 9 (Go.Operand.tmp 72) (some (Go.Operand.tmp 73)) (some (Go.Operand.tmp 74)) none, type := 9, pos := "outright.go:60", after := #[{ on := 1, ground := Go.Ground.data }, { on := 2, ground := Go.Ground.data }, { on := 3, ground := Go.Ground.data }], guard := none }) (v := ?_) rfl (by kernel_rfl) (by kernel_rfl) (by kernel_rfl) (fun _ _ _ h => h) (Or.inl ⟨by rfl, ?_⟩) (by assumption) ?_
        rotate_left
        focus ((intro w hSw; (try dsimp only at hSw); go_simp) <;> (with_reducible rfl))
        try simp only [Act.put, List.setIfInBounds_toArray, List.set_cons_zero, List.set_cons_succ]
        refine wpAnyH_ready (rs := [5, 10]) (by kernel_rfl) (by simp) ?_
        refine (AllReadyH.cons (o := { dst := some 76, op := Go.Op.call { callee := Go.Callee.value (Go.Operand.func 14), args := #[Go.Operand.tmp 71, Go.Operand.tmp 75], argTypes := #[24, 9] }, type := 33, pos := "outright.go:60", after := #[{ on := 0, ground := Go.Ground.data }, { on := 4, ground := Go.Ground.data }], guard := none }) rfl (fun K hK => ?_) (AllReadyH.cons (o := { dst := some 16, op := Go.Op.alloc 24, type := 0, pos := "outright.go:60", after := #[], guard := none }) rfl (fun K hK => ?_) AllReadyH.nil))
        · go_simp
          (go_at_call 14; refine (lfeed_any ⟨n, st, false⟩ X (by dsimp only; omega) (by omega) _).mono ?_; rintro e w4 ⟨⟨vs, rfl, hvs⟩, hb⟩; rw [HFX.out] at hvs ⊢; unfold spV; dsimp only at hvs ⊢; have HVS := Lib.hid hvs; clear hvs; have hbw : Below wr.heap.size wr w4 := lbelow_call (Below.refl _ _).drew hb)
          first | (go_wp2_with fail) | skip
          refine hK.out _ _ ?_ (fun hNew => ?_)
          focus ((try dsimp only); (refine K4.out _ ?_; repeat' (first | (with_reducible exact hHeld.1) | (with_reducible assumption) | (with_reducible exact Below.refl _ _) | (with_reducible refine Below.drew ?_) | (with_reducible refine lbelow_one _ ?_) | (with_reducible refine lbelow_st3 ?_ (Nat.le_refl _) _ _ _) | (refine lbelow_call (wx := ?_) ?_ ?_; rotate_left 2; assumption))))
          clear hK K hHeld
          have hHeld := hNew
          clear hNew
          try simp only [Act.put, List.setIfInBounds_toArray, List.set_cons_zero, List.set_cons_succ]
          refine wpAnyH_take (i := 6) (oi := { dst := some 70, op := Go.Op.move (Go.Operand.tmp 76), type := 33, pos := "outright.go:60", after := #[{ on := 5, ground := Go.Ground.data }], guard := none }) (v := ?_) rfl (by kernel_rfl) (by kernel_rfl) (by kernel_rfl) (fun _ _ _ h => h) (Or.inl ⟨by rfl, ?_⟩) (by assumption) ?_
          rotate_left
          focus ((intro w hSw; (try dsimp only at hSw); go_simp) <;> (with_reducible rfl))
          try simp only [Act.put, List.setIfInBounds_toArray, List.set_cons_zero, List.set_cons_succ]
          refine wpAnyH_take (i := 7) (oi := { dst := some 77, op := Go.Op.extract (Go.Operand.tmp 70) 0, type := 24, pos := "outright.go:60", after := #[{ on := 6, ground := Go.Ground.data }], guard := none }) (v := ?_) rfl (by kernel_rfl) (by kernel_rfl) (by kernel_rfl) (fun _ _ _ h => h) (Or.inl ⟨by rfl, ?_⟩) (by assumption) ?_
          rotate_left
          focus ((intro w hSw; (try dsimp only at hSw); go_simp) <;> (with_reducible rfl))
          try simp only [Act.put, List.setIfInBounds_toArray, List.set_cons_zero, List.set_cons_succ]
          refine wpAnyH_take (i := 8) (oi := { dst := some 78, op := Go.Op.extract (Go.Operand.tmp 70) 1, type := 32, pos := "outright.go:60", after := #[{ on := 6, ground := Go.Ground.data }, { on := 11, ground := Go.Ground.gcOnly Go.Departure.lateStores }], guard := none }) (v := ?_) rfl (by kernel_rfl) (by kernel_rfl) (by kernel_rfl) (fun _ _ _ h => h) (Or.inl ⟨by rfl, ?_⟩) (by assumption) ?_
          rotate_left
          focus ((intro w hSw; (try dsimp only at hSw); go_simp) <;> (with_reducible rfl))
          try simp only [Act.put, List.setIfInBounds_toArray, List.set_cons_zero, List.set_cons_succ]
          refine wpAnyH_take (i := 9) (oi := { dst := some 79, op := Go.Op.extract (Go.Operand.tmp 70) 2, type := 29, pos := "outright.go:60", after := #[{ on := 6, ground := Go.Ground.data }, { on := 12, ground := Go.Ground.gcOnly Go.Departure.lateStores }], guard := none }) (v := ?_) rfl (by kernel_rfl) (by kernel_rfl) (by kernel_rfl) (fun _ _ _ h => h) (Or.inl ⟨by rfl, ?_⟩) (by assumption) ?_
          rotate_left
          focus ((intro w hSw; (try dsimp only at hSw); go_simp) <;> (with_reducible rfl))
          try simp only [Act.put, List.setIfInBounds_toArray, List.set_cons_zero, List.set_cons_succ]
          refine wpAnyH_ready (rs := [10]) (by kernel_rfl) (by simp) ?_
          refine (AllReadyH.cons (o := { dst := some 16, op := Go.Op.alloc 24, type := 0, pos := "outright.go:60", after := #[], guard := none }) rfl (fun K hK => ?_) AllReadyH.nil)
          go_simp
          refine hK.out _ _ ?_ (fun hNew => ?_)
          focus ((try dsimp only); (refine K4.out _ ?_; repeat' (first | (with_reducible exact hHeld.1) | (with_reducible assumption) | (with_reducible exact Below.refl _ _) | (with_reducible refine Below.drew ?_) | (with_reducible refine lbelow_one _ ?_) | (with_reducible refine lbelow_st3 ?_ (Nat.le_refl _) _ _ _) | (refine lbelow_call (wx := ?_) ?_ ?_; rotate_left 2; assumption))))
          clear hK K hHeld
          have hHeld := hNew
          clear hNew
          try simp only [Act.put, List.setIfInBounds_toArray, List.set_cons_zero, List.set_cons_succ]
          refine wpAnyH_ready (rs := [11]) (by kernel_rfl) (by simp) ?_
          refine (AllReadyH.cons (o := { dst := none, op := Go.Op.store 24 (Go.Operand.tmp 16) (Go.Operand.tmp 77), type := 0, pos := "outright.go:60", after := #[{ on := 10, ground := Go.Ground.data }, { on := 7, ground := Go.Ground.data }, { on := 5, ground := Go.Ground.chain }, { on := 0, ground := Go.Ground.phase }, { on := 1, ground := Go.Ground.phase }, { on := 2, ground := Go.Ground.phase }, { on := 3, ground := Go.Ground.phase }, { on := 4, ground := Go.Ground.phase }, { on := 5, ground := Go.Ground.phase }, { on := 6, ground := Go.Ground.phase }, { on := 7, ground := Go.Ground.phase }, { on := 8, ground := Go.Ground.textOnly Go.Departure.lateStores }, { on := 9, ground := Go.Ground.textOnly Go.Departure.lateStores }, { on := 10, ground := Go.Ground.phase }], guard := none }) rfl (fun K hK => ?_) AllReadyH.nil)
          go_simp
          refine hK.out _ _ ?_ (fun hNew => ?_)
          focus ((try dsimp only); (refine K4.out _ ?_; repeat' (first | (with_reducible exact hHeld.1) | (with_reducible assumption) | (with_reducible exact Below.refl _ _) | (with_reducible refine Below.drew ?_) | (with_reducible refine lbelow_one _ ?_) | (with_reducible refine lbelow_st3 ?_ (Nat.le_refl _) _ _ _) | (refine lbelow_call (wx := ?_) ?_ ?_; rotate_left 2; assumption))))
          clear hK K hHeld
          have hHeld := hNew
          clear hNew
          try simp only [Act.put, List.setIfInBounds_toArray, List.set_cons_zero, List.set_cons_succ]
          refine wpAnyH_take (i := 12) (oi := { dst := some 17, op := Go.Op.assign (Go.Operand.tmp 78), type := 32, pos := "outright.go:60", after := #[{ on := 8, ground := Go.Ground.data }, { on := 11, ground := Go.Ground.chain }, { on := 0, ground := Go.Ground.phase }, { on := 1, ground := Go.Ground.phase }, { on := 2, ground := Go.Ground.phase }, { on := 3, ground := Go.Ground.phase }, { on := 4, ground := Go.Ground.phase }, { on := 5, ground := Go.Ground.phase }, { on := 6, ground := Go.Ground.phase }, { on := 7, ground := Go.Ground.phase }, { on := 8, ground := Go.Ground.phase }, { on := 9, ground := Go.Ground.textOnly Go.Departure.lateStores }, { on := 10, ground := Go.Ground.phase }, { on := 11, ground := Go.Ground.phase }], guard := none }) (v := ?_) rfl (by kernel_rfl) (by kernel_rfl) (by kernel_rfl) (fun _ _ _ h => h) (Or.inl ⟨by rfl, ?_⟩) (by assumption) ?_
          rotate_left
          focus ((intro w hSw; (try dsimp only at hSw); go_simp) <;> (with_reducible rfl))
          try simp only [Act.put, List.setIfInBounds_toArray, List.set_cons_zero, List.set_cons_succ]
          refine wpAnyH_take (i := 13) (oi := { dst := some 18, op := Go.Op.assign (Go.Operand.tmp 79), type := 29, pos := "outright.go:60", after := #[{ on := 9, ground := Go.Ground.data }, { on := 12, ground := Go.Ground.chain }, { on := 0, ground := Go.Ground.phase }, { on := 1, ground := Go.Ground.phase }, { on := 2, ground := Go.Ground.phase }, { on := 3, ground := Go.Ground.phase }, { on := 4, ground := Go.Ground.phase }, { on := 5, ground := Go.Ground.phase }, { on := 6, ground := Go.Ground.phase }, { on := 7, ground := Go.Ground.phase }, { on := 8, ground := Go.Ground.phase }, { on := 9, ground := Go.Ground.phase }, { on := 10, ground := Go.Ground.phase }, { on := 11, ground := Go.Ground.phase }, { on := 12, ground := Go.Ground.phase }], guard := none }) (v := ?_) rfl (by kernel_rfl) (by kernel_rfl) (by kernel_rfl) (fun _ _ _ h => h) (Or.inl ⟨by rfl, ?_⟩) (by assumption) ?_
          rotate_left
          focus ((intro w hSw; (try dsimp only at hSw); go_simp) <;> (with_reducible rfl))
          try simp only [Act.put, List.setIfInBounds_toArray, List.set_cons_zero, List.set_cons_succ]
          refine wpAnyH_done (by kernel_rfl) ?_ _
          refine NoPanic.normal ?_
          have z1 := HSZ.out.1
          have z2 := HSZ.out.2
          have z3 := hbw.size
          have z4 := HXX.out.size
          have h11 := H11.out.below hbw H11.out.lt
          have h9 := HH9.out.below hbw HH9.out.lt
          have hrow := own_belowR HROW.out hbw
          have hX := HXX.out.trans (hbw.mono HXX.out.size)
          obtain ⟨W6, hW6⟩ : ∃ W, w4.alloc (.cells #[.int .i64 gn, .string ⟨gt.toArray⟩, .bool gg] 24) = W := ⟨_, rfl⟩
          have h11 : CBlk 24 W6 bx [.int .i64 n, .string ⟨st.toArray⟩, .bool false] := by rw [← hW6]; exact h11.alloc _
          have h9 : CBlk 24 W6 b9 [.int .i64 fn, .string ⟨ft.toArray⟩, .bool fg] := by rw [← hW6]; exact h9.alloc _
          have h16 : CBlk 24 W6 w4.heap.size [.int .i64 gn, .string ⟨gt.toArray⟩, .bool gg] := by rw [← hW6]; exact CBlk.new _ _ _
          have hX : Below w3.heap.size w3 W6 := by rw [← hW6]; exact hX.alloc hX.size _
          have hrow : W6.ownsRow (bx + 1) 27 2 (.slice ov O.length oc) O.length (lnsC O) := by rw [← hW6]; exact hrow.alloc _
          have hvs : LnsN (wr.drew.heap.size) W6 vs G := by rw [← hW6]; exact HVS.out.below ((Below.refl _ _).alloc (Nat.le_refl _) _) (Nat.le_refl _)
          rw [hW6]
          clear hW6 hb hbw HVS
          have m0 := h16.cells3.1
          have m1 := h16.cells3.2.1
          have m2 := h16.cells3.2.2
          have k0 := h11.cells3.1
          have k1 := h11.cells3.2.1
          have k2 := h11.cells3.2.2
          have kf0 := h11.free 0
          have kf1 := h11.free 1
          have kf2 := h11.free 2
          obtain ⟨W7, hW7⟩ : ∃ W, ((W6.setCell ⟨bx, 0, none⟩ (.int .i64 gn)).setCell ⟨bx, 1, none⟩ (.string ⟨gt.toArray⟩)).setCell ⟨bx, 2, none⟩ (.bool gg) = W := ⟨_, rfl⟩
          have g11 : CBlk 24 W7 bx [.int .i64 gn, .string ⟨gt.toArray⟩, .bool gg] := by rw [← hW7]; exact h11.store3 rfl _ _ _
          have g9 : CBlk 24 W7 b9 [.int .i64 fn, .string ⟨ft.toArray⟩, .bool fg] := by rw [← hW7]; exact ((h9.other ⟨bx, 0, none⟩ (by have := HBX.out; simp; omega) _).other ⟨bx, 1, none⟩ (by have := HBX.out; simp; omega) _).other ⟨bx, 2, none⟩ (by have := HBX.out; simp; omega) _
          have gX : Below w3.heap.size w3 W7 := by rw [← hW7]; exact below_store3 hX (by have := HB9.out; have := HBX.out; omega) _ _ _
          have grow : W7.ownsRow (bx + 1) 27 2 (.slice ov O.length oc) O.length (lnsC O) := by rw [← hW7]; exact ownsRow_setCell_below (ownsRow_setCell_below (ownsRow_setCell_below hrow (a := ⟨bx, 0, none⟩) (by simp) _) (a := ⟨bx, 1, none⟩) (by simp) _) (a := ⟨bx, 2, none⟩) (by simp) _
          have gvs : LnsN (wr.drew.heap.size) W7 vs G := by rw [← hW7]; exact ((hvs.set (a := ⟨bx, 0, none⟩) (by simp; omega) _).set (a := ⟨bx, 1, none⟩) (by simp; omega) _).set (a := ⟨bx, 2, none⟩) (by simp; omega) _
          have gz : bx + 1 ≤ W7.heap.size := g11.lt
          have HW7 := Lib.hid hW7
          have HG11 := Lib.hid g11
          have HG9 := Lib.hid g9
          have HGX := Lib.hid gX
          have HGROW := Lib.hid grow
          have HGZ := Lib.hid gz
          clear hW7 h11 h9 h16 hX hrow hvs g11 g9 gX grow gz K4 hHeld
          obtain ⟨ps, cs, rfl, hps0, -, hin⟩ := gvs
          have HIN := Lib.hid hin
          have HPS0 := Lib.hid hps0
          clear hin hps0
          go_upto_region 20 with fail
          rw [HW7.out]
          clear HW7 m0 m1 m2 k0 k1 k2 kf0 kf1 kf2
          have hne : ∀ b, b < bx + 1 → some b ≠ (Value.slice ov O.length oc).ownBlock := fun b hb e => by have := (HGROW.out.lt b e.symm).1; omega
          have HNE := Lib.hid hne
          clear hne
          cases ps with
          | none =>
            obtain rfl := HPS0.out rfl
            obtain rfl := lns_nil HIN.out
            go_wp2_with (at_builtin; refine wpList_append_own_none rfl _ _ 32 rfl _ 27 i0 2 Try.underlying32 hi _ _ _ rfl HGROW.out rfl ?_)
            go_roundw
            case rel =>
              refine ⟨j, q + 1, ⟨gn, gt, gg⟩, O ++ [], hj2, by omega, rfl, by go_num, HG1.out, by have := HGL.out; simp; omega, HP.out, ?_, HG11.out, HG9.out, HGX.out⟩
              rw [lnsC_append, List.length_append]
              simpa [lnsC] using HGROW.out
            case measure => simp [intOf]; omega
          | some ad =>
            have hnews := lnews_of (w := W7) HIN.out (Below.refl _ _)
            have hone := lnsC_one G
            have hlen := lnsC_length G
            have zz1 : (Value.agg #[.string ⟨#[]⟩, .bool false]).cells.size = 2 := by rfl
            have hgl := HGL.out
            have hO2 := hO
            go_wp2_with (at_builtin; refine wpList_append_own _ rfl _ _ 32 rfl (bx + 1) 27 i0 (.agg #[.string ⟨#[]⟩, .bool false]) 2 24 Try.underlying32 hi hz0 hz1 hz2 zz1 (by decide) _ _ _ rfl HGROW.out ad G.length cs (lnsC G) rfl hlen hnews hone (by unfold maxLen; omega) (by omega) HGZ.out ?_; intro v' w8 hown' hgrow _)
            have e11 := HG11.out.kept hgrow (HNE.out _ (by omega))
            have e9 := HG9.out.kept hgrow (HNE.out _ (by have := HBX.out; omega))
            have eX := below_grownR HGX.out HGX.out.size hgrow (fun r hr => by have := (HGROW.out.lt r hr).1; have := HBX.out; have := HB9.out; omega)
            go_roundw
            case rel =>
              refine ⟨j, q + 1, ⟨gn, gt, gg⟩, O ++ G, hj2, by omega, rfl, by go_num, HG1.out, by have := HGL.out; simp; omega, HP.out, ?_, e11, e9, eX⟩
              rw [lnsC_append, List.length_append]
              exact hown'
            case measure => simp [intOf]; omega
        · go_simp
          refine hK.out _ _ ?_ (fun hNew => ?_)
          focus ((try dsimp only); (refine K4.out _ ?_; repeat' (first | (with_reducible exact hHeld.1) | (with_reducible assumption) | (with_reducible exact Below.refl _ _) | (with_reducible refine Below.drew ?_) | (with_reducible refine lbelow_one _ ?_) | (with_reducible refine lbelow_st3 ?_ (Nat.le_refl _) _ _ _) | (refine lbelow_call (wx := ?_) ?_ ?_; rotate_left 2; assumption))))
          clear hK K hHeld
          have hHeld := hNew
          clear hNew
          try simp only [Act.put, List.setIfInBounds_toArray, List.set_cons_zero, List.set_cons_succ]
          refine wpAnyH_ready (rs := [5]) (by kernel_rfl) (by simp) ?_
          refine (AllReadyH.cons (o := { dst := some 76, op := Go.Op.call { callee := Go.Callee.value (Go.Operand.func 14), args := #[Go.Operand.tmp 71, Go.Operand.tmp 75], argTypes := #[24, 9] }, type := 33, pos := "outright.go:60", after := #[{ on := 0, ground := Go.Ground.data }, { on := 4, ground := Go.Ground.data }], guard := none }) rfl (fun K hK => ?_) AllReadyH.nil)
          go_simp
          (go_at_call 14; refine (lfeed_any ⟨n, st, false⟩ X (by dsimp only; omega) (by omega) _).mono ?_; rintro e w4 ⟨⟨vs, rfl, hvs⟩, hb⟩; rw [HFX.out] at hvs ⊢; unfold spV; dsimp only at hvs ⊢; have HVS := Lib.hid hvs; clear hvs; have c16 : CBlk 24 w4 wr.heap.size [.int .i64 0, .string ⟨#[]⟩, .bool false] := (CBlk.new 24 wr.drew [.int .i64 0, .string ⟨#[]⟩, .bool false]).below hb (by simp); obtain ⟨n0, n1, n2⟩ := c16.cells3; have nf0 := c16.free 0; have nf1 := c16.free 1; have nf2 := c16.free 2; have HC16 := Lib.hid c16; clear c16; have hbw : Below wr.heap.size wr w4 := lbelow_call (lbelow_one _ (Below.refl _ _).drew) hb)
          first | (go_wp2_with fail) | skip
          refine hK.out _ _ ?_ (fun hNew => ?_)
          focus ((try dsimp only); (refine K4.out _ ?_; repeat' (first | (with_reducible exact hHeld.1) | (with_reducible assumption) | (with_reducible exact Below.refl _ _) | (with_reducible refine Below.drew ?_) | (with_reducible refine lbelow_one _ ?_) | (with_reducible refine lbelow_st3 ?_ (Nat.le_refl _) _ _ _) | (refine lbelow_call (wx := ?_) ?_ ?_; rotate_left 2; assumption))))
          clear hK K hHeld
          have hHeld := hNew
          clear hNew
          try simp only [Act.put, List.setIfInBounds_toArray, List.set_cons_zero, List.set_cons_succ]
          refine wpAnyH_take (i := 6) (oi := { dst := some 70, op := Go.Op.move (Go.Operand.tmp 76), type := 33, pos := "outright.go:60", after := #[{ on := 5, ground := Go.Ground.data }], guard := none }) (v := ?_) rfl (by kernel_rfl) (by kernel_rfl) (by kernel_rfl) (fun _ _ _ h => h) (Or.inl ⟨by rfl, ?_⟩) (by assumption) ?_
          rotate_left
          focus ((intro w hSw; (try dsimp only at hSw); go_simp) <;> (with_reducible rfl))
          try simp only [Act.put, List.setIfInBounds_toArray, List.set_cons_zero, List.set_cons_succ]
          refine wpAnyH_take (i := 7) (oi := { dst := some 77, op := Go.Op.extract (Go.Operand.tmp 70) 0, type := 24, pos := "outright.go:60", after := #[{ on := 6, ground := Go.Ground.data }], guard := none }) (v := ?_) rfl (by kernel_rfl) (by kernel_rfl) (by kernel_rfl) (fun _ _ _ h => h) (Or.inl ⟨by rfl, ?_⟩) (by assumption) ?_
          rotate_left
          focus ((intro w hSw; (try dsimp only at hSw); go_simp) <;> (with_reducible rfl))
          try simp only [Act.put, List.setIfInBounds_toArray, List.set_cons_zero, List.set_cons_succ]
          refine wpAnyH_take (i := 8) (oi := { dst := some 78, op := Go.Op.extract (Go.Operand.tmp 70) 1, type := 32, pos := "outright.go:60", after := #[{ on := 6, ground := Go.Ground.data }, { on := 11, ground := Go.Ground.gcOnly Go.Departure.lateStores }], guard := none }) (v := ?_) rfl (by kernel_rfl) (by kernel_rfl) (by kernel_rfl) (fun _ _ _ h => h) (Or.inl ⟨by rfl, ?_⟩) (by assumption) ?_
          rotate_left
          focus ((intro w hSw; (try dsimp only at hSw); go_simp) <;> (with_reducible rfl))
          try simp only [Act.put, List.setIfInBounds_toArray, List.set_cons_zero, List.set_cons_succ]
          refine wpAnyH_take (i := 9) (oi := { dst := some 79, op := Go.Op.extract (Go.Operand.tmp 70) 2, type := 29, pos := "outright.go:60", after := #[{ on := 6, ground := Go.Ground.data }, { on := 12, ground := Go.Ground.gcOnly Go.Departure.lateStores }], guard := none }) (v := ?_) rfl (by kernel_rfl) (by kernel_rfl) (by kernel_rfl) (fun _ _ _ h => h) (Or.inl ⟨by rfl, ?_⟩) (by assumption) ?_
          rotate_left
          focus ((intro w hSw; (try dsimp only at hSw); go_simp) <;> (with_reducible rfl))
          try simp only [Act.put, List.setIfInBounds_toArray, List.set_cons_zero, List.set_cons_succ]
          refine wpAnyH_ready (rs := [11]) (by kernel_rfl) (by simp) ?_
          refine (AllReadyH.cons (o := { dst := none, op := Go.Op.store 24 (Go.Operand.tmp 16) (Go.Operand.tmp 77), type := 0, pos := "outright.go:60", after := #[{ on := 10, ground := Go.Ground.data }, { on := 7, ground := Go.Ground.data }, { on := 5, ground := Go.Ground.chain }, { on := 0, ground := Go.Ground.phase }, { on := 1, ground := Go.Ground.phase }, { on := 2, ground := Go.Ground.phase }, { on := 3, ground := Go.Ground.phase }, { on := 4, ground := Go.Ground.phase }, { on := 5, ground := Go.Ground.phase }, { on := 6, ground := Go.Ground.phase }, { on := 7, ground := Go.Ground.phase }, { on := 8, ground := Go.Ground.textOnly Go.Departure.lateStores }, { on := 9, ground := Go.Ground.textOnly Go.Departure.lateStores }, { on := 10, ground := Go.Ground.phase }], guard := none }) rfl (fun K hK => ?_) AllReadyH.nil)
          go_simp
          refine hK.out _ _ ?_ (fun hNew => ?_)
          focus ((try dsimp only); (refine K4.out _ ?_; repeat' (first | (with_reducible exact hHeld.1) | (with_reducible assumption) | (with_reducible exact Below.refl _ _) | (with_reducible refine Below.drew ?_) | (with_reducible refine lbelow_one _ ?_) | (with_reducible refine lbelow_st3 ?_ (Nat.le_refl _) _ _ _) | (refine lbelow_call (wx := ?_) ?_ ?_; rotate_left 2; assumption))))
          clear hK K hHeld
          have hHeld := hNew
          clear hNew
          try simp only [Act.put, List.setIfInBounds_toArray, List.set_cons_zero, List.set_cons_succ]
          refine wpAnyH_take (i := 12) (oi := { dst := some 17, op := Go.Op.assign (Go.Operand.tmp 78), type := 32, pos := "outright.go:60", after := #[{ on := 8, ground := Go.Ground.data }, { on := 11, ground := Go.Ground.chain }, { on := 0, ground := Go.Ground.phase }, { on := 1, ground := Go.Ground.phase }, { on := 2, ground := Go.Ground.phase }, { on := 3, ground := Go.Ground.phase }, { on := 4, ground := Go.Ground.phase }, { on := 5, ground := Go.Ground.phase }, { on := 6, ground := Go.Ground.phase }, { on := 7, ground := Go.Ground.phase }, { on := 8, ground := Go.Ground.phase }, { on := 9, ground := Go.Ground.textOnly Go.Departure.lateStores }, { on := 10, ground := Go.Ground.phase }, { on := 11, ground := Go.Ground.phase }], guard := none }) (v := ?_) rfl (by kernel_rfl) (by kernel_rfl) (by kernel_rfl) (fun _ _ _ h => h) (Or.inl ⟨by rfl, ?_⟩) (by assumption) ?_
          rotate_left
          focus ((intro w hSw; (try dsimp only at hSw); go_simp) <;> (with_reducible rfl))
          try simp only [Act.put, List.setIfInBounds_toArray, List.set_cons_zero, List.set_cons_succ]
          refine wpAnyH_take (i := 13) (oi := { dst := some 18, op := Go.Op.assign (Go.Operand.tmp 79), type := 29, pos := "outright.go:60", after := #[{ on := 9, ground := Go.Ground.data }, { on := 12, ground := Go.Ground.chain }, { on := 0, ground := Go.Ground.phase }, { on := 1, ground := Go.Ground.phase }, { on := 2, ground := Go.Ground.phase }, { on := 3, ground := Go.Ground.phase }, { on := 4, ground := Go.Ground.phase }, { on := 5, ground := Go.Ground.phase }, { on := 6, ground := Go.Ground.phase }, { on := 7, ground := Go.Ground.phase }, { on := 8, ground := Go.Ground.phase }, { on := 9, ground := Go.Ground.phase }, { on := 10, ground := Go.Ground.phase }, { on := 11, ground := Go.Ground.phase }, { on := 12, ground := Go.Ground.phase }], guard := none }) (v := ?_) rfl (by kernel_rfl) (by kernel_rfl) (by kernel_rfl) (fun _ _ _ h => h) (Or.inl ⟨by rfl, ?_⟩) (by assumption) ?_
          rotate_left
          focus ((intro w hSw; (try dsimp only at hSw); go_simp) <;> (with_reducible rfl))
          try simp only [Act.put, List.setIfInBounds_toArray, List.set_cons_zero, List.set_cons_succ]
          refine wpAnyH_done (by kernel_rfl) ?_ _
          refine NoPanic.normal ?_
          have z1 := HSZ.out.1
          have z2 := HSZ.out.2
          have z3 := hbw.size
          have z4 := HXX.out.size
          have h11 := H11.out.below hbw H11.out.lt
          have h9 := HH9.out.below hbw HH9.out.lt
          have hrow := own_belowR HROW.out hbw
          have hX := HXX.out.trans (hbw.mono HXX.out.size)
          have hne16 : ∀ b, (Value.slice ov O.length oc).ownBlock = some b → b ≠ wr.heap.size := fun b hb e => by
            have := (HROW.out.lt b hb).2
            omega
          obtain ⟨W6, hW6⟩ : ∃ W, ((w4.setCell ⟨wr.heap.size, 0, none⟩ (.int .i64 gn)).setCell ⟨wr.heap.size, 1, none⟩ (.string ⟨gt.toArray⟩)).setCell ⟨wr.heap.size, 2, none⟩ (.bool gg) = W := ⟨_, rfl⟩
          have h11 : CBlk 24 W6 bx [.int .i64 n, .string ⟨st.toArray⟩, .bool false] := by rw [← hW6]; exact ((h11.other ⟨wr.heap.size, 0, none⟩ (by have := HBX.out; simp; omega) _).other ⟨wr.heap.size, 1, none⟩ (by have := HBX.out; simp; omega) _).other ⟨wr.heap.size, 2, none⟩ (by have := HBX.out; simp; omega) _
          have h9 : CBlk 24 W6 b9 [.int .i64 fn, .string ⟨ft.toArray⟩, .bool fg] := by rw [← hW6]; exact ((h9.other ⟨wr.heap.size, 0, none⟩ (by have := HBX.out; simp; omega) _).other ⟨wr.heap.size, 1, none⟩ (by have := HBX.out; simp; omega) _).other ⟨wr.heap.size, 2, none⟩ (by have := HBX.out; simp; omega) _
          have h16 : CBlk 24 W6 wr.heap.size [.int .i64 gn, .string ⟨gt.toArray⟩, .bool gg] := by rw [← hW6]; exact HC16.out.store3 rfl _ _ _
          have hX : Below w3.heap.size w3 W6 := by rw [← hW6]; exact below_store3 hX HXX.out.size _ _ _
          have hrow : W6.ownsRow (bx + 1) 27 2 (.slice ov O.length oc) O.length (lnsC O) := by rw [← hW6]; exact own_other3 hrow _ hne16 _ _ _
          have hvs : LnsN ((wr.drew.alloc (.cells #[.int .i64 0, .string ⟨#[]⟩, .bool false] 24)).heap.size) W6 vs G := by rw [← hW6]; exact ((HVS.out.set (a := ⟨wr.heap.size, 0, none⟩) (by simp) _).set (a := ⟨wr.heap.size, 1, none⟩) (by simp) _).set (a := ⟨wr.heap.size, 2, none⟩) (by simp) _
          rw [hW6]
          clear hW6 hb hbw HVS
          have m0 := h16.cells3.1
          have m1 := h16.cells3.2.1
          have m2 := h16.cells3.2.2
          have k0 := h11.cells3.1
          have k1 := h11.cells3.2.1
          have k2 := h11.cells3.2.2
          have kf0 := h11.free 0
          have kf1 := h11.free 1
          have kf2 := h11.free 2
          obtain ⟨W7, hW7⟩ : ∃ W, ((W6.setCell ⟨bx, 0, none⟩ (.int .i64 gn)).setCell ⟨bx, 1, none⟩ (.string ⟨gt.toArray⟩)).setCell ⟨bx, 2, none⟩ (.bool gg) = W := ⟨_, rfl⟩
          have g11 : CBlk 24 W7 bx [.int .i64 gn, .string ⟨gt.toArray⟩, .bool gg] := by rw [← hW7]; exact h11.store3 rfl _ _ _
          have g9 : CBlk 24 W7 b9 [.int .i64 fn, .string ⟨ft.toArray⟩, .bool fg] := by rw [← hW7]; exact ((h9.other ⟨bx, 0, none⟩ (by have := HBX.out; simp; omega) _).other ⟨bx, 1, none⟩ (by have := HBX.out; simp; omega) _).other ⟨bx, 2, none⟩ (by have := HBX.out; simp; omega) _
          have gX : Below w3.heap.size w3 W7 := by rw [← hW7]; exact below_store3 hX (by have := HB9.out; have := HBX.out; omega) _ _ _
          have grow : W7.ownsRow (bx + 1) 27 2 (.slice ov O.length oc) O.length (lnsC O) := by rw [← hW7]; exact ownsRow_setCell_below (ownsRow_setCell_below (ownsRow_setCell_below hrow (a := ⟨bx, 0, none⟩) (by simp) _) (a := ⟨bx, 1, none⟩) (by simp) _) (a := ⟨bx, 2, none⟩) (by simp) _
          have gvs : LnsN ((wr.drew.alloc (.cells #[.int .i64 0, .string ⟨#[]⟩, .bool false] 24)).heap.size) W7 vs G := by rw [← hW7]; exact ((hvs.set (a := ⟨bx, 0, none⟩) (by simp; omega) _).set (a := ⟨bx, 1, none⟩) (by simp; omega) _).set (a := ⟨bx, 2, none⟩) (by simp; omega) _
          have gz : bx + 1 ≤ W7.heap.size := g11.lt
          have HW7 := Lib.hid hW7
          have HG11 := Lib.hid g11
          have HG9 := Lib.hid g9
          have HGX := Lib.hid gX
          have HGROW := Lib.hid grow
          have HGZ := Lib.hid gz
          clear hW7 h11 h9 h16 hX hrow hvs g11 g9 gX grow gz K4 hHeld
          obtain ⟨ps, cs, rfl, hps0, -, hin⟩ := gvs
          have HIN := Lib.hid hin
          have HPS0 := Lib.hid hps0
          clear hin hps0
          go_upto_region 20 with fail
          rw [HW7.out]
          clear HW7 m0 m1 m2 k0 k1 k2 kf0 kf1 kf2
          have hne : ∀ b, b < bx + 1 → some b ≠ (Value.slice ov O.length oc).ownBlock := fun b hb e => by have := (HGROW.out.lt b e.symm).1; omega
          have HNE := Lib.hid hne
          clear hne
          cases ps with
          | none =>
            obtain rfl := HPS0.out rfl
            obtain rfl := lns_nil HIN.out
            go_wp2_with (at_builtin; refine wpList_append_own_none rfl _ _ 32 rfl _ 27 i0 2 Try.underlying32 hi _ _ _ rfl HGROW.out rfl ?_)
            go_roundw
            case rel =>
              refine ⟨j, q + 1, ⟨gn, gt, gg⟩, O ++ [], hj2, by omega, rfl, by go_num, HG1.out, by have := HGL.out; simp; omega, HP.out, ?_, HG11.out, HG9.out, HGX.out⟩
              rw [lnsC_append, List.length_append]
              simpa [lnsC] using HGROW.out
            case measure => simp [intOf]; omega
          | some ad =>
            have hnews := lnews_of (w := W7) HIN.out (Below.refl _ _)
            have hone := lnsC_one G
            have hlen := lnsC_length G
            have zz1 : (Value.agg #[.string ⟨#[]⟩, .bool false]).cells.size = 2 := by rfl
            have hgl := HGL.out
            have hO2 := hO
            go_wp2_with (at_builtin; refine wpList_append_own _ rfl _ _ 32 rfl (bx + 1) 27 i0 (.agg #[.string ⟨#[]⟩, .bool false]) 2 24 Try.underlying32 hi hz0 hz1 hz2 zz1 (by decide) _ _ _ rfl HGROW.out ad G.length cs (lnsC G) rfl hlen hnews hone (by unfold maxLen; omega) (by omega) HGZ.out ?_; intro v' w8 hown' hgrow _)
            have e11 := HG11.out.kept hgrow (HNE.out _ (by omega))
            have e9 := HG9.out.kept hgrow (HNE.out _ (by have := HBX.out; omega))
            have eX := below_grownR HGX.out HGX.out.size hgrow (fun r hr => by have := (HGROW.out.lt r hr).1; have := HBX.out; have := HB9.out; omega)
            go_roundw
            case rel =>
              refine ⟨j, q + 1, ⟨gn, gt, gg⟩, O ++ G, hj2, by omega, rfl, by go_num, HG1.out, by have := HGL.out; simp; omega, HP.out, ?_, e11, e9, eX⟩
              rw [lnsC_append, List.length_append]
              exact hown'
            case measure => simp [intOf]; omega
      · have he := hp.out
        rw [show goC n O ⟨n, st, true⟩ (s.drop k) = (⟨n, st, true⟩, O) from rfl] at he
        injection he with he1 he2
        injection he1 with e1 e2 e3
        subst e1 e2 e3 he2
        have HROW := Lib.hid hrow
        have H11 := Lib.hid h11
        have HH9 := Lib.hid h9
        have HXX := Lib.hid hX
        have HZZ := Lib.hid (show bx < wr.heap.size from h11.lt)
        obtain ⟨t0, t1, t2⟩ := h9.cells3
        clear hp hrow h11 h9 hX hleft
        go_wp2_with fail
        refine (sameLines_any O (by omega) _ _ _ (lns_of_own HROW.out) (HVA.out.below HXX.out (Nat.le_refl _))).mono ?_
        rintro e w5 ⟨rfl, hb⟩
        have h11 := H11.out.below hb H11.out.lt
        have h9 := HH9.out.below hb HH9.out.lt
        have hX := HXX.out.trans (hb.mono HXX.out.size)
        have h7 := H73.out.below hX HLT7.out
        have z0 := h7.cells3.1
        have z1 := h7.cells3.2.1
        have z2 := h7.cells3.2.2
        have v0 := h11.cells3.1
        have v1 := h11.cells3.2.1
        have v2 := h11.cells3.2.2
        have vf0 := h11.free 0
        have vf1 := h11.free 1
        have vf2 := h11.free 2
        obtain ⟨W9, hW9⟩ : ∃ W, ((w5.setCell ⟨bx, 0, none⟩ (.int .i64 n)).setCell ⟨bx, 1, none⟩ (.string ⟨#[]⟩)).setCell ⟨bx, 2, none⟩ (.bool false) = W := ⟨_, rfl⟩
        have HA11 := Lib.hid (show CBlk 24 W9 bx [.int .i64 n, .string ⟨#[]⟩, .bool false] by rw [← hW9]; exact h11.store3 rfl _ _ _)
        have HA9 := Lib.hid (show CBlk 24 W9 b9 [.int .i64 n, .string ⟨st.toArray⟩, .bool true] by rw [← hW9]; exact ((h9.other ⟨bx, 0, none⟩ (by have := HBX.out; simp; omega) _).other ⟨bx, 1, none⟩ (by have := HBX.out; simp; omega) _).other ⟨bx, 2, none⟩ (by have := HBX.out; simp; omega) _)
        have HAX := Lib.hid (show Below w3.heap.size w3 W9 by rw [← hW9]; exact below_store3 hX (by have := HB9.out; have := HBX.out; omega) _ _ _)
        have HW9 := Lib.hid hW9
        clear hb h11 h9 hX h7 hW9 y0 y1 y2 t0 t1 t2 HROW H11 HH9 HXX HZZ
        go_upto_region 24 with fail
        rw [HW9.out]
        clear z0 z1 z2 v0 v1 v2 vf0 vf1 vf2 HW9
        go_wp2_with fail
        go_loopw [12, 19, 20] (fun o rr nn wr => ∃ (k2 : Nat) (C : List UInt8) (Q : List Ln), k2 + C.length ≤ s.length ∧ Q.length + C.length ≤ s.length ∧ nn = .int .i64 k2 ∧ rr = .string ⟨C.toArray⟩ ∧ Hid (((feedL n [] C).1, Q ++ (feedL n [] C).2) = (⟨n, st, true⟩, O)) ∧ wr.ownsRow (bx + 1) 27 2 o Q.length (lnsC Q) ∧ CBlk 24 wr bx [.int .i64 n, .string ⟨#[]⟩, .bool false] ∧ CBlk 24 wr b9 [.int .i64 n, .string ⟨st.toArray⟩, .bool true] ∧ Below w3.heap.size w3 wr) (fun _ _ nn _ => s.length + 1 - (intOf nn).toNat)
        case atStart => exact ⟨0, s, [], by omega, by simp, rfl, rfl, Lib.hid (by rw [HF2.out]; rfl), World.ownsRow_nil _ _ _ _, HA11.out, HA9.out, HAX.out⟩
        case round =>
          clear HA11 HA9 HAX
          obtain ⟨k2, C, Q, hk2, hQ, rfl, rfl, hp2, hrow, h11, h9, hX⟩ := hrel
          have g1 : decide ((k2 : Int) ≤ (s.length : Int)) = true := decide_eq_true (by omega)
          obtain ⟨qv, qc, rfl⟩ := own_slice hrow
          obtain ⟨⟨⟨xn, xt, xg⟩, ⟨lt, lgd⟩, rest, is⟩, ho⟩ : ∃ o, oneL n [] C = o := ⟨_, rfl⟩
          have hof := one_feed n C []
          rw [ho] at hof
          dsimp only at hof
          have HV : Hid (oneV ⟨n, [], false⟩ C = .tuple #[.agg #[.int .i64 xn, .string ⟨xt.toArray⟩, .bool xg], .agg #[.string ⟨lt.toArray⟩, .bool lgd], .string ⟨rest.toArray⟩, .bool is, .int .i64 0]) := Lib.hid (by unfold oneV oneR; rw [errS_of (by omega), if_pos rfl]; dsimp only; rw [ho]; rfl)
          have HOF := Lib.hid hof
          have HR := Lib.hid hrow
          have H11 := Lib.hid h11
          have HH9 := Lib.hid h9
          have HXX := Lib.hid hX
          have y0 := h11.cells3.1
          have y1 := h11.cells3.2.1
          have y2 := h11.cells3.2.2
          clear ho hof hrow h11 h9 hX
          go_wp2_with fail
          refine (lone_any ⟨n, [], false⟩ C (by simp) (by omega) _).mono ?_
          rintro e w6 ⟨rfl, hb⟩
          rw [HV.out]
          have HR := Lib.hid (own_belowR HR.out hb)
          have H11 := Lib.hid (H11.out.below hb H11.out.lt)
          have HH9 := Lib.hid (HH9.out.below hb HH9.out.lt)
          have HXX := Lib.hid (HXX.out.trans (hb.mono HXX.out.size))
          clear hb y0 y1 y2
          obtain ⟨W2, hW2⟩ : ∃ W2, (w6.alloc (.cells #[.int .i64 xn, .string ⟨xt.toArray⟩, .bool xg] 24)).alloc (.cells #[.string ⟨lt.toArray⟩, .bool lgd] 27) = W2 := ⟨_, rfl⟩
          have c8 : CBlk 24 W2 w6.heap.size [.int .i64 xn, .string ⟨xt.toArray⟩, .bool xg] := by
            rw [← hW2]
            exact (CBlk.new _ w6 _).alloc _
          have c9 : CBlk 27 W2 (w6.heap.size + 1) [.string ⟨lt.toArray⟩, .bool lgd] := by
            rw [← hW2]
            have h := CBlk.new 27 (w6.alloc (.cells #[.int .i64 xn, .string ⟨xt.toArray⟩, .bool xg] 24)) [.string ⟨lt.toArray⟩, .bool lgd]
            simpa using h
          have hrow : W2.ownsRow (bx + 1) 27 2 (.slice qv Q.length qc) Q.length (lnsC Q) := by rw [← hW2]; exact (HR.out.alloc _).alloc _
          have h11 : CBlk 24 W2 bx [.int .i64 n, .string ⟨#[]⟩, .bool false] := by rw [← hW2]; exact (H11.out.alloc _).alloc _
          have h9 : CBlk 24 W2 b9 [.int .i64 n, .string ⟨st.toArray⟩, .bool true] := by rw [← hW2]; exact (HH9.out.alloc _).alloc _
          have hX : Below w3.heap.size w3 W2 := by
            rw [← hW2]
            have h1 := HXX.out.alloc HXX.out.size (.cells #[.int .i64 xn, .string ⟨xt.toArray⟩, .bool xg] 24)
            exact h1.alloc h1.size _
          have z8 : bx < w6.heap.size := H11.out.lt
          have m0 := c8.cells3.1
          have m1 := c8.cells3.2.1
          have m2 := c8.cells3.2.2
          have v0 := h11.cells3.1
          have v1 := h11.cells3.2.1
          have v2 := h11.cells3.2.2
          have vf0 := h11.free 0
          have vf1 := h11.free 1
          have vf2 := h11.free 2
          obtain ⟨W7, hW7⟩ : ∃ W, ((W2.setCell ⟨bx, 0, none⟩ (.int .i64 xn)).setCell ⟨bx, 1, none⟩ (.string ⟨xt.toArray⟩)).setCell ⟨bx, 2, none⟩ (.bool xg) = W := ⟨_, rfl⟩
          have d11 : CBlk 24 W7 bx [.int .i64 xn, .string ⟨xt.toArray⟩, .bool xg] := by rw [← hW7]; exact h11.store3 rfl _ _ _
          have d9 : CBlk 24 W7 b9 [.int .i64 n, .string ⟨st.toArray⟩, .bool true] := by rw [← hW7]; exact ((h9.other ⟨bx, 0, none⟩ (by have := HBX.out; simp; omega) _).other ⟨bx, 1, none⟩ (by have := HBX.out; simp; omega) _).other ⟨bx, 2, none⟩ (by have := HBX.out; simp; omega) _
          have dX : Below w3.heap.size w3 W7 := by rw [← hW7]; exact below_store3 hX (by have := HB9.out; have := HBX.out; omega) _ _ _
          have drow : W7.ownsRow (bx + 1) 27 2 (.slice qv Q.length qc) Q.length (lnsC Q) := by rw [← hW7]; exact ownsRow_setCell_below (ownsRow_setCell_below (ownsRow_setCell_below hrow (a := ⟨bx, 0, none⟩) (by simp) _) (a := ⟨bx, 1, none⟩) (by simp) _) (a := ⟨bx, 2, none⟩) (by simp) _
          have dln : CBlk 27 W7 (w6.heap.size + 1) [.string ⟨lt.toArray⟩, .bool lgd] := by rw [← hW7]; exact ((c9.other ⟨bx, 0, none⟩ (by have := HBX.out; simp; omega) _).other ⟨bx, 1, none⟩ (by have := HBX.out; simp; omega) _).other ⟨bx, 2, none⟩ (by have := HBX.out; simp; omega) _
          have dz : bx + 1 ≤ W7.heap.size := d11.lt
          have D11 := Lib.hid d11
          have D9 := Lib.hid d9
          have DX := Lib.hid dX
          have DROW := Lib.hid drow
          have DLN := Lib.hid dln
          have DZ := Lib.hid dz
          have HW7 := Lib.hid hW7
          clear c8 c9 hrow h11 h9 hX hW7 d11 d9 dX drow dln dz HR H11 HH9 HXX
          go_upto_region 28 with fail
          clear hW2
          go_upto_region 31 with fail
          rw [HW7.out]
          clear HW7 m0 m1 m2 v0 v1 v2 vf0 vf1 vf2 z8
          cases is
          · have hfd := HOF.out.2 rfl
            have he2 := hp2.out
            rw [hfd] at he2
            dsimp only at he2
            rw [List.append_nil] at he2
            injection he2 with he1 he2
            injection he1 with e1 e2 e3
            subst e1 e2 e3 he2
            obtain ⟨t0, t1, t2⟩ := D9.out.cells3
            obtain ⟨x0, x1, x2⟩ := D11.out.cells3
            clear hfd HOF hp2
            go_wp2_with fail
            refine (sameLines_any Q (by omega) _ _ _ (lns_of_own DROW.out) (HVA.out.below DX.out (Nat.le_refl _))).mono ?_
            rintro e w8 ⟨rfl, hb⟩
            have hB := (HB.out.trans (DX.out.mono HB.out.size))
            have hB := hB.trans (hb.mono hB.size)
            clear hb t0 t1 t2 x0 x1 x2
            go_wp2_with fail
            refine (lawake_any _).mono ?_
            rintro e w9 ⟨rfl, hb⟩
            have hB := hB.trans (hb.mono hB.size)
            clear hb
            go_wp2_with fail
            go_ret
            exact ⟨rfl, hB⟩
          · obtain ⟨h1, h2, h3⟩ := HOF.out.1 rfl
            injection h1 with h1 h1b h1c
            subst h1 h1b h1c
            have hnext : Hid (((feedL xn [] rest).1, Q ++ [⟨lt, lgd⟩] ++ (feedL xn [] rest).2) = (⟨xn, st, true⟩, O)) := Lib.hid (by
              rw [← hp2.out, h3]
              simp)
            clear HOF h3 hp2
            have hne : ∀ b, b < bx + 1 → some b ≠ (Value.slice qv Q.length qc).ownBlock := fun b hb e => by have := (DROW.out.lt b e.symm).1; omega
            have HNE := Lib.hid hne
            have zz : bx + 1 ≤ (W7.alloc (.cells #[.string ⟨lt.toArray⟩, .bool lgd] 27)).heap.size := by have := DZ.out; simp; omega
            have hX0 := DX.out.alloc DX.out.size (.cells #[.string ⟨lt.toArray⟩, .bool lgd] 27)
            obtain ⟨l0, l1⟩ := DLN.out.cells2
            clear hne
            go_wp2_with (at_builtin; refine wpList_append_own _ rfl _ _ 32 rfl (bx + 1) 27 i0 (.agg #[.string ⟨#[]⟩, .bool false]) 2 24 Try.underlying32 hi hz0 hz1 hz2 rfl (by decide) _ _ _ rfl (World.ownsRow.alloc DROW.out (.cells #[.string ⟨lt.toArray⟩, .bool lgd] 27)) ⟨W7.heap.size, 0, none⟩ 1 1 [.string ⟨lt.toArray⟩, .bool lgd] rfl rfl (lcell_news W7 _ _) (by simp [Value.oneCell']) (by unfold maxLen; omega) (by omega) zz ?_; intro v' w8 hown' hgrow _)
            have e11 := (D11.out.alloc (.cells #[.string ⟨lt.toArray⟩, .bool lgd] 27)).kept hgrow (HNE.out _ (by omega))
            have e9 := (D9.out.alloc (.cells #[.string ⟨lt.toArray⟩, .bool lgd] 27)).kept hgrow (HNE.out _ (by have := HBX.out; omega))
            have eX := below_grownR hX0 hX0.size hgrow (fun r hr => by have := (DROW.out.lt r hr).1; have := HBX.out; have := HB9.out; omega)
            go_roundw
            case rel =>
              refine ⟨k2 + 1, rest, Q ++ [⟨lt, lgd⟩], by omega, by simp; omega, by go_num, rfl, hnext, ?_, e11, e9, eX⟩
              rw [lnsC_append, List.length_append]
              exact hown'
            case measure => simp [intOf]; omega
    · have c1 : decide ((k : Int) < (s.length : Int)) = false := decide_eq_false (by omega)
      obtain rfl : k = s.length := by omega
      have he := hp.out
      rw [List.drop_length, goC_end (s := ⟨n, st, sg⟩) rfl] at he
      injection he with he1 he2
      injection he1 with e1 e2 e3
      subst e1 e2 e3 he2
      have HROW := Lib.hid hrow
      have H11 := Lib.hid h11
      have HH9 := Lib.hid h9
      have HXX := Lib.hid hX
      have HZZ := Lib.hid (show bx < wr.heap.size from h11.lt)
      obtain ⟨t0, t1, t2⟩ := h9.cells3
      clear hp hrow h11 h9 hX hleft
      go_wp2_with fail
      refine (sameLines_any O (by omega) _ _ _ (lns_of_own HROW.out) (HVA.out.below HXX.out (Nat.le_refl _))).mono ?_
      rintro e w5 ⟨rfl, hb⟩
      have h11 := H11.out.below hb H11.out.lt
      have h9 := HH9.out.below hb HH9.out.lt
      have hX := HXX.out.trans (hb.mono HXX.out.size)
      have h7 := H73.out.below hX HLT7.out
      have z0 := h7.cells3.1
      have z1 := h7.cells3.2.1
      have z2 := h7.cells3.2.2
      have v0 := h11.cells3.1
      have v1 := h11.cells3.2.1
      have v2 := h11.cells3.2.2
      have vf0 := h11.free 0
      have vf1 := h11.free 1
      have vf2 := h11.free 2
      obtain ⟨W9, hW9⟩ : ∃ W, ((w5.setCell ⟨bx, 0, none⟩ (.int .i64 n)).setCell ⟨bx, 1, none⟩ (.string ⟨#[]⟩)).setCell ⟨bx, 2, none⟩ (.bool false) = W := ⟨_, rfl⟩
      have HA11 := Lib.hid (show CBlk 24 W9 bx [.int .i64 n, .string ⟨#[]⟩, .bool false] by rw [← hW9]; exact h11.store3 rfl _ _ _)
      have HA9 := Lib.hid (show CBlk 24 W9 b9 [.int .i64 n, .string ⟨st.toArray⟩, .bool sg] by rw [← hW9]; exact ((h9.other ⟨bx, 0, none⟩ (by have := HBX.out; simp; omega) _).other ⟨bx, 1, none⟩ (by have := HBX.out; simp; omega) _).other ⟨bx, 2, none⟩ (by have := HBX.out; simp; omega) _)
      have HAX := Lib.hid (show Below w3.heap.size w3 W9 by rw [← hW9]; exact below_store3 hX (by have := HB9.out; have := HBX.out; omega) _ _ _)
      have HW9 := Lib.hid hW9
      clear hb h11 h9 hX h7 hW9 y0 y1 y2 t0 t1 t2 HROW H11 HH9 HXX HZZ
      go_upto_region 24 with fail
      rw [HW9.out]
      clear z0 z1 z2 v0 v1 v2 vf0 vf1 vf2 HW9
      go_wp2_with fail
      go_loopw [12, 19, 20] (fun o rr nn wr => ∃ (k2 : Nat) (C : List UInt8) (Q : List Ln), k2 + C.length ≤ s.length ∧ Q.length + C.length ≤ s.length ∧ nn = .int .i64 k2 ∧ rr = .string ⟨C.toArray⟩ ∧ Hid (((feedL n [] C).1, Q ++ (feedL n [] C).2) = (⟨n, st, sg⟩, O)) ∧ wr.ownsRow (bx + 1) 27 2 o Q.length (lnsC Q) ∧ CBlk 24 wr bx [.int .i64 n, .string ⟨#[]⟩, .bool false] ∧ CBlk 24 wr b9 [.int .i64 n, .string ⟨st.toArray⟩, .bool sg] ∧ Below w3.heap.size w3 wr) (fun _ _ nn _ => s.length + 1 - (intOf nn).toNat)
      case atStart => exact ⟨0, s, [], by omega, by simp, rfl, rfl, Lib.hid (by rw [HF2.out]; rfl), World.ownsRow_nil _ _ _ _, HA11.out, HA9.out, HAX.out⟩
      case round =>
        clear HA11 HA9 HAX
        obtain ⟨k2, C, Q, hk2, hQ, rfl, rfl, hp2, hrow, h11, h9, hX⟩ := hrel
        have g1 : decide ((k2 : Int) ≤ (s.length : Int)) = true := decide_eq_true (by omega)
        obtain ⟨qv, qc, rfl⟩ := own_slice hrow
        obtain ⟨⟨⟨xn, xt, xg⟩, ⟨lt, lgd⟩, rest, is⟩, ho⟩ : ∃ o, oneL n [] C = o := ⟨_, rfl⟩
        have hof := one_feed n C []
        rw [ho] at hof
        dsimp only at hof
        have HV : Hid (oneV ⟨n, [], false⟩ C = .tuple #[.agg #[.int .i64 xn, .string ⟨xt.toArray⟩, .bool xg], .agg #[.string ⟨lt.toArray⟩, .bool lgd], .string ⟨rest.toArray⟩, .bool is, .int .i64 0]) := Lib.hid (by unfold oneV oneR; rw [errS_of (by omega), if_pos rfl]; dsimp only; rw [ho]; rfl)
        have HOF := Lib.hid hof
        have HR := Lib.hid hrow
        have H11 := Lib.hid h11
        have HH9 := Lib.hid h9
        have HXX := Lib.hid hX
        have y0 := h11.cells3.1
        have y1 := h11.cells3.2.1
        have y2 := h11.cells3.2.2
        clear ho hof hrow h11 h9 hX
        go_wp2_with fail
        refine (lone_any ⟨n, [], false⟩ C (by simp) (by omega) _).mono ?_
        rintro e w6 ⟨rfl, hb⟩
        rw [HV.out]
        have HR := Lib.hid (own_belowR HR.out hb)
        have H11 := Lib.hid (H11.out.below hb H11.out.lt)
        have HH9 := Lib.hid (HH9.out.below hb HH9.out.lt)
        have HXX := Lib.hid (HXX.out.trans (hb.mono HXX.out.size))
        clear hb y0 y1 y2
        obtain ⟨W2, hW2⟩ : ∃ W2, (w6.alloc (.cells #[.int .i64 xn, .string ⟨xt.toArray⟩, .bool xg] 24)).alloc (.cells #[.string ⟨lt.toArray⟩, .bool lgd] 27) = W2 := ⟨_, rfl⟩
        have c8 : CBlk 24 W2 w6.heap.size [.int .i64 xn, .string ⟨xt.toArray⟩, .bool xg] := by
          rw [← hW2]
          exact (CBlk.new _ w6 _).alloc _
        have c9 : CBlk 27 W2 (w6.heap.size + 1) [.string ⟨lt.toArray⟩, .bool lgd] := by
          rw [← hW2]
          have h := CBlk.new 27 (w6.alloc (.cells #[.int .i64 xn, .string ⟨xt.toArray⟩, .bool xg] 24)) [.string ⟨lt.toArray⟩, .bool lgd]
          simpa using h
        have hrow : W2.ownsRow (bx + 1) 27 2 (.slice qv Q.length qc) Q.length (lnsC Q) := by rw [← hW2]; exact (HR.out.alloc _).alloc _
        have h11 : CBlk 24 W2 bx [.int .i64 n, .string ⟨#[]⟩, .bool false] := by rw [← hW2]; exact (H11.out.alloc _).alloc _
        have h9 : CBlk 24 W2 b9 [.int .i64 n, .string ⟨st.toArray⟩, .bool sg] := by rw [← hW2]; exact (HH9.out.alloc _).alloc _
        have hX : Below w3.heap.size w3 W2 := by
          rw [← hW2]
          have h1 := HXX.out.alloc HXX.out.size (.cells #[.int .i64 xn, .string ⟨xt.toArray⟩, .bool xg] 24)
          exact h1.alloc h1.size _
        have z8 : bx < w6.heap.size := H11.out.lt
        have m0 := c8.cells3.1
        have m1 := c8.cells3.2.1
        have m2 := c8.cells3.2.2
        have v0 := h11.cells3.1
        have v1 := h11.cells3.2.1
        have v2 := h11.cells3.2.2
        have vf0 := h11.free 0
        have vf1 := h11.free 1
        have vf2 := h11.free 2
        obtain ⟨W7, hW7⟩ : ∃ W, ((W2.setCell ⟨bx, 0, none⟩ (.int .i64 xn)).setCell ⟨bx, 1, none⟩ (.string ⟨xt.toArray⟩)).setCell ⟨bx, 2, none⟩ (.bool xg) = W := ⟨_, rfl⟩
        have d11 : CBlk 24 W7 bx [.int .i64 xn, .string ⟨xt.toArray⟩, .bool xg] := by rw [← hW7]; exact h11.store3 rfl _ _ _
        have d9 : CBlk 24 W7 b9 [.int .i64 n, .string ⟨st.toArray⟩, .bool sg] := by rw [← hW7]; exact ((h9.other ⟨bx, 0, none⟩ (by have := HBX.out; simp; omega) _).other ⟨bx, 1, none⟩ (by have := HBX.out; simp; omega) _).other ⟨bx, 2, none⟩ (by have := HBX.out; simp; omega) _
        have dX : Below w3.heap.size w3 W7 := by rw [← hW7]; exact below_store3 hX (by have := HB9.out; have := HBX.out; omega) _ _ _
        have drow : W7.ownsRow (bx + 1) 27 2 (.slice qv Q.length qc) Q.length (lnsC Q) := by rw [← hW7]; exact ownsRow_setCell_below (ownsRow_setCell_below (ownsRow_setCell_below hrow (a := ⟨bx, 0, none⟩) (by simp) _) (a := ⟨bx, 1, none⟩) (by simp) _) (a := ⟨bx, 2, none⟩) (by simp) _
        have dln : CBlk 27 W7 (w6.heap.size + 1) [.string ⟨lt.toArray⟩, .bool lgd] := by rw [← hW7]; exact ((c9.other ⟨bx, 0, none⟩ (by have := HBX.out; simp; omega) _).other ⟨bx, 1, none⟩ (by have := HBX.out; simp; omega) _).other ⟨bx, 2, none⟩ (by have := HBX.out; simp; omega) _
        have dz : bx + 1 ≤ W7.heap.size := d11.lt
        have D11 := Lib.hid d11
        have D9 := Lib.hid d9
        have DX := Lib.hid dX
        have DROW := Lib.hid drow
        have DLN := Lib.hid dln
        have DZ := Lib.hid dz
        have HW7 := Lib.hid hW7
        clear c8 c9 hrow h11 h9 hX hW7 d11 d9 dX drow dln dz HR H11 HH9 HXX
        go_upto_region 28 with fail
        clear hW2
        go_upto_region 31 with fail
        rw [HW7.out]
        clear HW7 m0 m1 m2 v0 v1 v2 vf0 vf1 vf2 z8
        cases is
        · have hfd := HOF.out.2 rfl
          have he2 := hp2.out
          rw [hfd] at he2
          dsimp only at he2
          rw [List.append_nil] at he2
          injection he2 with he1 he2
          injection he1 with e1 e2 e3
          subst e1 e2 e3 he2
          obtain ⟨t0, t1, t2⟩ := D9.out.cells3
          obtain ⟨x0, x1, x2⟩ := D11.out.cells3
          clear hfd HOF hp2
          go_wp2_with fail
          refine (sameLines_any Q (by omega) _ _ _ (lns_of_own DROW.out) (HVA.out.below DX.out (Nat.le_refl _))).mono ?_
          rintro e w8 ⟨rfl, hb⟩
          have hB := (HB.out.trans (DX.out.mono HB.out.size))
          have hB := hB.trans (hb.mono hB.size)
          clear hb t0 t1 t2 x0 x1 x2
          go_wp2_with fail
          refine (lawake_any _).mono ?_
          rintro e w9 ⟨rfl, hb⟩
          have hB := hB.trans (hb.mono hB.size)
          clear hb
          go_wp2_with fail
          go_ret
          exact ⟨rfl, hB⟩
        · obtain ⟨h1, h2, h3⟩ := HOF.out.1 rfl
          injection h1 with h1 h1b h1c
          subst h1 h1b h1c
          have hnext : Hid (((feedL xn [] rest).1, Q ++ [⟨lt, lgd⟩] ++ (feedL xn [] rest).2) = (⟨xn, st, sg⟩, O)) := Lib.hid (by
            rw [← hp2.out, h3]
            simp)
          clear HOF h3 hp2
          have hne : ∀ b, b < bx + 1 → some b ≠ (Value.slice qv Q.length qc).ownBlock := fun b hb e => by have := (DROW.out.lt b e.symm).1; omega
          have HNE := Lib.hid hne
          have zz : bx + 1 ≤ (W7.alloc (.cells #[.string ⟨lt.toArray⟩, .bool lgd] 27)).heap.size := by have := DZ.out; simp; omega
          have hX0 := DX.out.alloc DX.out.size (.cells #[.string ⟨lt.toArray⟩, .bool lgd] 27)
          obtain ⟨l0, l1⟩ := DLN.out.cells2
          clear hne
          go_wp2_with (at_builtin; refine wpList_append_own _ rfl _ _ 32 rfl (bx + 1) 27 i0 (.agg #[.string ⟨#[]⟩, .bool false]) 2 24 Try.underlying32 hi hz0 hz1 hz2 rfl (by decide) _ _ _ rfl (World.ownsRow.alloc DROW.out (.cells #[.string ⟨lt.toArray⟩, .bool lgd] 27)) ⟨W7.heap.size, 0, none⟩ 1 1 [.string ⟨lt.toArray⟩, .bool lgd] rfl rfl (lcell_news W7 _ _) (by simp [Value.oneCell']) (by unfold maxLen; omega) (by omega) zz ?_; intro v' w8 hown' hgrow _)
          have e11 := (D11.out.alloc (.cells #[.string ⟨lt.toArray⟩, .bool lgd] 27)).kept hgrow (HNE.out _ (by omega))
          have e9 := (D9.out.alloc (.cells #[.string ⟨lt.toArray⟩, .bool lgd] 27)).kept hgrow (HNE.out _ (by have := HBX.out; omega))
          have eX := below_grownR hX0 hX0.size hgrow (fun r hr => by have := (DROW.out.lt r hr).1; have := HBX.out; have := HB9.out; omega)
          go_roundw
          case rel =>
            refine ⟨k2 + 1, rest, Q ++ [⟨lt, lgd⟩], by omega, by simp; omega, by go_num, rfl, hnext, ?_, e11, e9, eX⟩
            rw [lnsC_append, List.length_append]
            exact hown'
          case measure => simp [intOf]; omega
end Go.Proofs.Ytfagjhadfonhdaa
