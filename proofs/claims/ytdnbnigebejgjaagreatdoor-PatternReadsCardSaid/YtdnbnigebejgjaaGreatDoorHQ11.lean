/-
  The parser of package pattern: a group, given what a piece does; a piece of any depth.
  The parser of package pattern: pieces of any depth, the whole pattern, and Parse.
  pattern.Parse for every text: its tree, or its fault. The table of signs holds what its initialiser lays.
-/
import Derived.Test.YtdnbnigebejgjaaGreatDoorHQ8
import Derived.Test.YtdnbnigebejgjaaGreatDoorHBits
namespace Go.Proofs.YtdnbnigebejgjaaGreatDoor
open Go.RowKit
theorem RD.groups {w : World} {B : Nat} {t : List UInt8} {s : RS} {x4 x5 x6 x7 : Value} (h : RD w B t s x4 x5 x6 x7) (v : Value) : RD (w.setCell ⟨B, 7, none⟩ v) B t s x4 x5 x6 v := ⟨h.1, h.2.1, CBlk.set h.2.2 7 v⟩
theorem KI_one {w : World} {B g : Nat} {x : Nat} (hB : B < w.heap.size) (hg : g < w.heap.size) : KI (w.alloc (.cells #[.int .i64 (x : Int)] 3)) B g (some ⟨w.heap.size, 0, none⟩) [x] := by
  intro j hj
  have hk : (w.alloc (.cells #[.int .i64 (x : Int)] 3)).heap[w.heap.size]? = _ := heap_alloc_new w _
  refine ⟨w.heap.size, 0, rfl, by simp, by omega, by omega, ?_⟩
  rw [cell_of_row _ _ _ _ _ _ hk]
  match j, hj with
  | 0, _ => rfl
theorem PB.more {w : World} {B N : Nat} {t : List UInt8} {S : PS} {v x5 x6 : Value} (h : PB w B N t S v x5 x6) (n : Nat) : PB (w.setCell ⟨B, 7, none⟩ (.int .i64 (n : Int))) B N t { S with g := n } v x5 x6 :=
  ⟨h.rd.groups _, ownsRow_setCell_other h.row (fun e => h.ne e.symm) _, h.st.keep (jgset w B 7 _) (fun e => by injection e; have := h.lo; have := h.hi; omega), h.lo, h.hi⟩
set_option maxHeartbeats 8000000 in
set_option maxRecDepth 100000 in
theorem grp_any (t : List UInt8) (f : Nat) (pc : PS → Nat × PS) (B N : Nat) (x5 x6 : Value) (hG : PG t f pc) (hP : PieceOK t f pc B N x5 x6) (S : PS) (v : Value) (W : World) (h : PB W B N t S v x5 x6) (hf : vl t S.r ≤ f + 1) (hpos : 0 < vl t S.r) (hpot : pot t S ≤ 100000) (hgp : gp t S ≤ 100000) :
    Calls Tryz.prog 105 #[.pointer (some ⟨B, 0, none⟩)] W fun e w' => e = .returned (.int .i64 ((grpP t pc S).1 : Int)) ∧ ∃ v', PB w' B N t (grpP t pc S).2 v' x5 x6 ∧ PF B v v' W w' := by
  have hNB := h.hi
  have hlo := h.lo
  have hlt := h.lt
  have hL0 : S.L.length < 1000000 := by unfold pot at hpot; omega
  have hg0 : S.g ≤ 100000 := by unfold gp at hgp; omega
  obtain ⟨f1, f2, f3⟩ := grp1_facts hpos
  have hlenC := (choP_le hG (addP (grp1 t S) (bare 4 .empty ((grp1 t S).g : Int))) (by show vl t (grp1 t S).r ≤ f; omega)).l0
  have HCH := Lib.hid fun v W hb => cho_any t f pc B N x5 x6 hG hP (addP (grp1 t S) (bare 4 .empty ((grp1 t S).g : Int))) v W hb (by show vl t (grp1 t S).r ≤ f; omega) (by
    have := (JLE.add t (grp1 t S) (bare 4 .empty ((grp1 t S).g : Int))).p0
    have h2 : pot t (grp1 t S) + 4 ≤ pot t S := by unfold pot; rw [f2]; omega
    omega) (by
    have := (JLE.add t (grp1 t S) (bare 4 .empty ((grp1 t S).g : Int))).g0
    have h2 : gp t (grp1 t S) ≤ gp t S := by unfold gp; rw [f3]; omega
    omega)
  have hkid := choP_kid hG (addP (grp1 t S) (bare 4 .empty ((grp1 t S).g : Int))) (by show vl t (grp1 t S).r ≤ f; omega)
  obtain ⟨r1, hr1⟩ : ∃ r, (grp1 t S).r = r := ⟨_, rfl⟩
  have hS1 : grp1 t S = ⟨r1, S.L, S.g + 1⟩ := by
    have : grp1 t S = ⟨(grp1 t S).r, (grp1 t S).L, (grp1 t S).g⟩ := rfl
    rw [this, hr1, f2, f3]
  rw [hS1] at HCH hkid hlenC
  dsimp only at HCH hkid hlenC
  have hlen3 : S.L.length < (choP t pc (addP ⟨r1, S.L, S.g + 1⟩ (bare 4 .empty ((S.g + 1 : Nat) : Int)))).2.L.length := by
    have : (addP ⟨r1, S.L, S.g + 1⟩ (bare 4 .empty ((S.g + 1 : Nat) : Int))).L.length = S.L.length + 1 := by simp [addP]
    omega
  have hRes0 : grpP t pc S = (S.L.length, { (adoptP (choP t pc (addP (grp1 t S) (bare 4 .empty ((grp1 t S).g : Int)))).2 S.L.length [(choP t pc (addP (grp1 t S) (bare 4 .empty ((grp1 t S).g : Int)))).1]) with
      r := timesR t (needR t (choP t pc (addP (grp1 t S) (bare 4 .empty ((grp1 t S).g : Int)))).2.r [41]) [3],
      L := setTimes (adoptL (choP t pc (addP (grp1 t S) (bare 4 .empty ((grp1 t S).g : Int)))).2.L (S.L.length, false) [(choP t pc (addP (grp1 t S) (bare 4 .empty ((grp1 t S).g : Int)))).1]) S.L.length (timesV t (needR t (choP t pc (addP (grp1 t S) (bare 4 .empty ((grp1 t S).g : Int)))).2.r [41]) [3]) }) := rfl
  rw [hS1] at hRes0
  dsimp only at hRes0
  obtain ⟨⟨y, S2⟩, hy⟩ : ∃ q, choP t pc (addP ⟨r1, S.L, S.g + 1⟩ (bare 4 .empty ((S.g + 1 : Nat) : Int))) = q := ⟨_, rfl⟩
  rw [hy] at HCH hkid hlen3 hRes0
  dsimp only at hkid hlen3 hRes0
  obtain ⟨r3, hr3⟩ : ∃ r, needR t S2.r [41] = r := ⟨_, rfl⟩
  obtain ⟨x, hx⟩ : ∃ x, timesV t r3 [3] = x := ⟨_, rfl⟩
  obtain ⟨r4, hr4⟩ : ∃ x, timesR t r3 [3] = x := ⟨_, rfl⟩
  obtain ⟨L1, hL1⟩ : ∃ L1, adoptL S2.L (S.L.length, false) [y] = L1 := ⟨_, rfl⟩
  have hl1 : L1.length = S2.L.length := by rw [← hL1, adoptL_length]
  rw [hr3, hx, hr4, hL1] at hRes0
  have hRes : Hid (grpP t pc S = (S.L.length, ⟨r4, setTimes L1 S.L.length x, S2.g⟩)) := Lib.hid hRes0
  have hT : ∀ (x4 x7 : Value) (X : World), RD X B t r3 x4 x5 x6 x7 → ST X → Calls Tryz.prog 107 #[.pointer (some ⟨B, 0, none⟩), .slice (some ⟨X.heap.size, 0, none⟩) 1 1] (X.alloc (.cells #[.int .i64 3] 3)).drew fun e w' => e = .returned (.int .i64 (x : Int)) ∧ RD w' B t r4 x4 x5 x6 x7 ∧ X.grownBy w' (some B) := by
    intro x4 x7 X h1 h2
    have := times1 t r3 x4 x5 x6 x7 X B h1 h2 (by omega)
    rw [hx, hr4] at this
    exact this
  have hN : ∀ (x4 x7 : Value) (X : World), RD X B t S2.r x4 x5 x6 x7 → Calls Tryz.prog 118 #[.pointer (some ⟨B, 0, none⟩), .string ⟨#[41]⟩] X fun e w' => e = .returned (.tuple #[]) ∧ RD w' B t r3 x4 x5 x6 x7 ∧ X.grownBy w' (some B) := by
    intro x4 x7 X h1
    have := need_any t S2.r x4 x5 x6 x7 [41] (by simp) X B h1
    rw [hr3] at this
    exact this
  have HT := Lib.hid hT
  have HNE := Lib.hid hN
  have wwg : IntKind.i64.wrap ((S.g : Int) + 1) = (S.g : Int) + 1 := jwrap (by omega) (by omega)
  clear hRes0 hS1 hy hx hr4 hr3 f1 f2 f3 hlenC hT hN
  obtain ⟨d4, d5, d6, d7⟩ := h.rd.cells2
  obtain ⟨c0, c1, c2, c3⟩ := h.rd.cells
  by_cases h9 : S.g = 9
  · have a9 : ((S.g : Int) == 9) = true := by simp [h9]
    have hr : r1 = needR t (failR S.r 14 S.r.k) [40] := by rw [← hr1]; unfold grp1; rw [if_pos h9]
    have HR1 := Lib.hid hr
    clear h9 hr hr1
    go_enter Tryz.func105, Tryz.ntmps105
    go_wp2_with fail
    go_region_with (go_at_call 54; refine (fail_any t S.r v x5 x6 _ 14 S.r.k _ B h.rd.drew).mono ?_; rintro e w1 ⟨rfl, q1, g1⟩)
    have h1 := h.step (r := failR S.r 14 S.r.k) q1 (jgtrans (jgdrew (jgrefl W (some B))) g1)
    have p1 := PF.of v (jgtrans (jgdrew (jgrefl W (some B))) g1)
    clear c0 c1 c2 c3 d4 d5 d6 d7 q1 g1
    go_wp2_with fail
    refine (need_any t _ v x5 x6 _ [40] (by simp) _ B h1.rd).mono ?_
    rintro e w2 ⟨rfl, q2, g2⟩
    have h2 := h1.step q2 g2
    have p2 := p1.trans (PF.of v g2)
    rw [← HR1.out] at h2
    clear h1 p1 q2 g2
    obtain ⟨k4, k5, k6, k7⟩ := h2.rd.cells2
    have fz7 := h2.rd.free 7
    go_wp2_with fail
    have h3 := h2.more (S.g + 1)
    have p3 := p2.trans (PF.of v (jgset w2 B 7 (.int .i64 ((S.g + 1 : Nat) : Int))))
    rw [show ((S.g + 1 : Nat) : Int) = (S.g : Int) + 1 by omega] at h3 p3
    have hz3 := p3.size
    refine (add_any t r1 v x5 x6 _ (⟨4, 0, .empty, (S.g : Int) + 1, 0, 0⟩ : ND) S.L hL0 N _ B (by omega) h3.rd h3.row).mono ?_
    rintro e w4 ⟨rfl, v4, q4, o4, p4⟩
    have h4 : PB w4 B N t (addP ⟨r1, S.L, S.g + 1⟩ (bare 4 .empty ((S.g + 1 : Nat) : Int))) v4 x5 x6 := by
      rw [show ((S.g + 1 : Nat) : Int) = (S.g : Int) + 1 by omega]
      exact h3.add (n := ⟨4, 0, .empty, (S.g : Int) + 1, 0, 0⟩) q4 o4 p4
    have p5 := p3.trans p4
    clear h2 p2 h3 p3 q4 o4 p4 k4 k5 k6 k7 fz7
    go_wp2_with fail
    refine (HCH.out _ _ h4).mono ?_
    rintro e w5 ⟨rfl, v5, h5, p6⟩
    have p7 := p5.trans p6
    clear h4 p5 p6
    obtain ⟨g, cap, rfl, hg1, hg2⟩ := h5.row.form (Nat.lt_of_le_of_lt (Nat.zero_le _) hlen3)
    have h6 := h5.keep (World.grownBy_alloc w5 (.cells #[.int .i64 (y : Int)] 3) none) (by simp) (.inl rfl) (by simp)
    have p8 := p7.grown (World.grownBy_alloc w5 (.cells #[.int .i64 (y : Int)] 3) none) (by simp)
    have hlt5 := h5.lt
    go_wp2_with fail
    refine (adopt_any t S2.r g cap x5 x6 _ S2.L N _ B S.L.length hlen3 [y] (by intro k hk; rw [List.mem_singleton.1 hk]; exact hkid) (by simp) (some ⟨w5.heap.size, 0, none⟩) 1 h6.rd h6.row (KI_one hlt5 hg2)).mono ?_
    rintro e w6 ⟨rfl, q6, o6, g6⟩
    rw [hL1] at o6
    have h7 : PB w6 B N t ⟨S2.r, L1, S2.g⟩ (.slice (some ⟨g, 0, none⟩) L1.length cap) x5 x6 := by
      refine ⟨by rw [hl1]; exact q6, by rw [hl1]; exact o6, h6.st.keep g6 (fun e => by injection e with e; omega), hlo, hNB⟩
    have p9 : PF B v (.slice (some ⟨g, 0, none⟩) L1.length cap) W w6 := by
      rw [hl1]
      exact p8.trans ⟨g6.os, g6.tape, g6.output, g6.size, fun k hk h1 h2 => g6.block k hk (fun e => h2 (by rw [e]; rfl)), .inl rfl⟩
    clear h5 h6 p7 p8 q6 o6 g6
    go_wp2_with fail
    refine (HNE.out _ _ _ h7.rd).mono ?_
    rintro e w7 ⟨rfl, q7, g7⟩
    have h8 := h7.step q7 g7
    have p10 := p9.trans (PF.of _ g7)
    clear h7 p9 q7 g7
    obtain ⟨d4, d5, d6, d7⟩ := h8.rd.cells2
    have hbd : (S.L.length : Int) < (L1.length : Int) := by omega
    have hne := h8.ne
    have hz4 := h8.lt
    have hj : S.L.length * 9 + 1 < L1.length * 9 := by omega
    go_wp2_with fail
    go_region_with (go_at_call 107; refine (HT.out _ _ _ h8.rd h8.st).mono ?_; rintro e w8 ⟨rfl, q8, g8⟩; have o8 := h8.row.kept g8 (.inr (fun e => hne e.symm)); have c8 := o8.cellAt (S.L.length * 9 + 1) hj; rw [List.getElem?_eq_getElem (show S.L.length * 9 + 1 < (ndsC L1).length by rw [ndsC_length]; exact hj)] at c8; have fz8 := o8.frozenAt (S.L.length * 9 + 1); obtain ⟨e4, e5, e6, e7⟩ := q8.cells2)
    all_goals
      go_wp2_with fail
      go_ret
      obtain ⟨o9, g9⟩ := o8.stored (S.L.length * 9 + 1) (.int .i64 (x : Int))
      have h9 := h8.step q8 g8
      rw [hRes.out]
      refine ⟨rfl, .slice (some ⟨g, 0, none⟩) L1.length cap, ⟨q8.kept g9 (fun e => hne e), ?_, h9.st.keep g9 (fun e => by injection e; omega), hlo, hNB⟩, ?_⟩
      · show World.ownsRow _ N _ 9 _ (setTimes L1 S.L.length x).length (ndsC (setTimes L1 S.L.length x))
        rw [setTimes_length, ← ndsC_times _ _ _ (by omega)]
        exact o9
      · exact (p10.trans (PF.of _ g8)).trans ⟨g9.os, g9.tape, g9.output, g9.size, fun k hk h1 h2 => g9.block k hk (fun e => h2 (by rw [e]; rfl)), .inl rfl⟩
  · have a9 : ((S.g : Int) == 9) = false := by
      have : (S.g : Int) ≠ 9 := by omega
      simpa using this
    have hr : r1 = needR t S.r [40] := by rw [← hr1]; unfold grp1; rw [if_neg h9]
    have HR1 := Lib.hid hr
    clear h9 hr hr1
    go_enter Tryz.func105, Tryz.ntmps105
    go_wp2_with fail
    refine (need_any t _ v x5 x6 _ [40] (by simp) _ B h.rd).mono ?_
    rintro e w2 ⟨rfl, q2, g2⟩
    have h2 := h.step q2 g2
    have p2 := PF.of v g2
    rw [← HR1.out] at h2
    clear q2 g2 c0 c1 c2 c3 d4 d5 d6 d7
    obtain ⟨k4, k5, k6, k7⟩ := h2.rd.cells2
    have fz7 := h2.rd.free 7
    go_wp2_with fail
    have h3 := h2.more (S.g + 1)
    have p3 := p2.trans (PF.of v (jgset w2 B 7 (.int .i64 ((S.g + 1 : Nat) : Int))))
    rw [show ((S.g + 1 : Nat) : Int) = (S.g : Int) + 1 by omega] at h3 p3
    have hz3 := p3.size
    refine (add_any t r1 v x5 x6 _ (⟨4, 0, .empty, (S.g : Int) + 1, 0, 0⟩ : ND) S.L hL0 N _ B (by omega) h3.rd h3.row).mono ?_
    rintro e w4 ⟨rfl, v4, q4, o4, p4⟩
    have h4 : PB w4 B N t (addP ⟨r1, S.L, S.g + 1⟩ (bare 4 .empty ((S.g + 1 : Nat) : Int))) v4 x5 x6 := by
      rw [show ((S.g + 1 : Nat) : Int) = (S.g : Int) + 1 by omega]
      exact h3.add (n := ⟨4, 0, .empty, (S.g : Int) + 1, 0, 0⟩) q4 o4 p4
    have p5 := p3.trans p4
    clear h2 p2 h3 p3 q4 o4 p4 k4 k5 k6 k7 fz7
    go_wp2_with fail
    refine (HCH.out _ _ h4).mono ?_
    rintro e w5 ⟨rfl, v5, h5, p6⟩
    have p7 := p5.trans p6
    clear h4 p5 p6
    obtain ⟨g, cap, rfl, hg1, hg2⟩ := h5.row.form (Nat.lt_of_le_of_lt (Nat.zero_le _) hlen3)
    have h6 := h5.keep (World.grownBy_alloc w5 (.cells #[.int .i64 (y : Int)] 3) none) (by simp) (.inl rfl) (by simp)
    have p8 := p7.grown (World.grownBy_alloc w5 (.cells #[.int .i64 (y : Int)] 3) none) (by simp)
    have hlt5 := h5.lt
    go_wp2_with fail
    refine (adopt_any t S2.r g cap x5 x6 _ S2.L N _ B S.L.length hlen3 [y] (by intro k hk; rw [List.mem_singleton.1 hk]; exact hkid) (by simp) (some ⟨w5.heap.size, 0, none⟩) 1 h6.rd h6.row (KI_one hlt5 hg2)).mono ?_
    rintro e w6 ⟨rfl, q6, o6, g6⟩
    rw [hL1] at o6
    have h7 : PB w6 B N t ⟨S2.r, L1, S2.g⟩ (.slice (some ⟨g, 0, none⟩) L1.length cap) x5 x6 := by
      refine ⟨by rw [hl1]; exact q6, by rw [hl1]; exact o6, h6.st.keep g6 (fun e => by injection e with e; omega), hlo, hNB⟩
    have p9 : PF B v (.slice (some ⟨g, 0, none⟩) L1.length cap) W w6 := by
      rw [hl1]
      exact p8.trans ⟨g6.os, g6.tape, g6.output, g6.size, fun k hk h1 h2 => g6.block k hk (fun e => h2 (by rw [e]; rfl)), .inl rfl⟩
    clear h5 h6 p7 p8 q6 o6 g6
    go_wp2_with fail
    refine (HNE.out _ _ _ h7.rd).mono ?_
    rintro e w7 ⟨rfl, q7, g7⟩
    have h8 := h7.step q7 g7
    have p10 := p9.trans (PF.of _ g7)
    clear h7 p9 q7 g7
    obtain ⟨d4, d5, d6, d7⟩ := h8.rd.cells2
    have hbd : (S.L.length : Int) < (L1.length : Int) := by omega
    have hne := h8.ne
    have hz4 := h8.lt
    have hj : S.L.length * 9 + 1 < L1.length * 9 := by omega
    go_wp2_with fail
    go_region_with (go_at_call 107; refine (HT.out _ _ _ h8.rd h8.st).mono ?_; rintro e w8 ⟨rfl, q8, g8⟩; have o8 := h8.row.kept g8 (.inr (fun e => hne e.symm)); have c8 := o8.cellAt (S.L.length * 9 + 1) hj; rw [List.getElem?_eq_getElem (show S.L.length * 9 + 1 < (ndsC L1).length by rw [ndsC_length]; exact hj)] at c8; have fz8 := o8.frozenAt (S.L.length * 9 + 1); obtain ⟨e4, e5, e6, e7⟩ := q8.cells2)
    all_goals
      go_wp2_with fail
      go_ret
      obtain ⟨o9, g9⟩ := o8.stored (S.L.length * 9 + 1) (.int .i64 (x : Int))
      have h9 := h8.step q8 g8
      rw [hRes.out]
      refine ⟨rfl, .slice (some ⟨g, 0, none⟩) L1.length cap, ⟨q8.kept g9 (fun e => hne e), ?_, h9.st.keep g9 (fun e => by injection e; omega), hlo, hNB⟩, ?_⟩
      · show World.ownsRow _ N _ 9 _ (setTimes L1 S.L.length x).length (ndsC (setTimes L1 S.L.length x))
        rw [setTimes_length, ← ndsC_times _ _ _ (by omega)]
        exact o9
      · exact (p10.trans (PF.of _ g8)).trans ⟨g9.os, g9.tape, g9.output, g9.size, fun k hk h1 h2 => g9.block k hk (fun e => h2 (by rw [e]; rfl)), .inl rfl⟩
end Go.Proofs.YtdnbnigebejgjaaGreatDoor
namespace Go.Proofs.YtdnbnigebejgjaaGreatDoor
open Go.RowKit
set_option maxHeartbeats 2000000 in
theorem piece_any (t : List UInt8) (f : Nat) (pc : PS → Nat × PS) (B N : Nat) (x5 x6 : Value) (hG : PG t f pc) (hP : PieceOK t f pc B N x5 x6) : PieceOK t (f + 1) (pieceP t pc) B N x5 x6 := by
  intro S v W h hpos hf hpot hgp
  obtain ⟨q, hq⟩ : ∃ q, Lib.hasPrefix (restR t S.r) [40] = q := ⟨_, rfl⟩
  cases q with
  | false =>
    have e : pieceP t pc S = atomP t S := by unfold pieceP; rw [hq]; exact if_neg (by simp)
    rw [e]
    exact atom_any t B N x5 x6 S v W h hpot hq
  | true =>
    have e : pieceP t pc S = grpP t pc S := by unfold pieceP; rw [hq]; exact if_pos rfl
    rw [e]
    have HGR := Lib.hid fun v W h => grp_any t f pc B N x5 x6 hG hP S v W h hf hpos hpot hgp
    clear e hpos hf hpot hgp
    have hlt := h.lt
    go_enter Tryz.func92, Tryz.ntmps92
    go_wp2_with fail
    refine (rest_any t S.r v x5 x6 _ _ B h.rd).mono ?_
    rintro e w1 ⟨rfl, hb1⟩
    have h1 := h.step (h.rd.below hb1 hlt) (jgrown B hb1)
    have p1 := PF.of v (jgrown B hb1)
    go_wp2_with fail
    refine (prefix_any _ [40] _).mono ?_
    rintro e w2 ⟨rfl, rfl⟩
    rw [hq]
    go_wp2_with fail
    refine (HGR.out _ _ h1).mono ?_
    rintro e w3 ⟨rfl, v3, h3, p3⟩
    go_wp2_with fail
    go_ret
    exact ⟨rfl, v3, h3, p1.trans p3⟩
theorem pcP_ok (t : List UInt8) (B N : Nat) (x5 x6 : Value) : ∀ f, PieceOK t f (pcP t f) B N x5 x6
  | 0 => fun S v W h hpos hf => absurd hpos (by omega)
  | f + 1 => piece_any t f (pcP t f) B N x5 x6 (pcP_good t f) (pcP_ok t B N x5 x6 f)
theorem RD.begins {w : World} {B : Nat} {t : List UInt8} {s : RS} {x4 x5 x6 x7 : Value} (h : RD w B t s x4 x5 x6 x7) (v : Value) : RD (w.setCell ⟨B, 5, none⟩ v) B t s x4 v x6 x7 := ⟨h.1, h.2.1, CBlk.set h.2.2 5 v⟩
theorem RD.ends {w : World} {B : Nat} {t : List UInt8} {s : RS} {x4 x5 x6 x7 : Value} (h : RD w B t s x4 x5 x6 x7) (v : Value) : RD (w.setCell ⟨B, 6, none⟩ v) B t s x4 x5 v x7 := ⟨h.1, h.2.1, CBlk.set h.2.2 6 v⟩
set_option maxHeartbeats 4000000 in
set_option maxRecDepth 100000 in
theorem pattern_any (t : List UInt8) (ht : t.length ≤ 64) (B N : Nat) (W : World) (h : PB W B N t ⟨⟨0, 0, 0⟩, [], 0⟩ (.slice none 0 0) (.bool false) (.bool false)) :
    Calls Tryz.prog 32 #[.pointer (some ⟨B, 0, none⟩)] W fun e w' => e = .returned (.tuple #[]) ∧ ∃ v', PB w' B N t { patS t with r := lastR t (patS t).r } v' (.bool (takeB t ⟨0, 0, 0⟩ [94])) (.bool (endB t (patS t).r)) ∧ PF B (.slice none 0 0) v' W w' := by
  have hNB := h.hi
  have hlo := h.lo
  have hlt := h.lt
  obtain ⟨b, hb⟩ : ∃ b, takeB t ⟨0, 0, 0⟩ [94] = b := ⟨_, rfl⟩
  obtain ⟨r0, hr0⟩ : ∃ r, takeR t ⟨0, 0, 0⟩ [94] = r := ⟨_, rfl⟩
  have hv0 : vl t r0 ≤ t.length := by rw [← hr0]; exact Nat.le_trans (restR_len t _) (by omega)
  have HCH := Lib.hid fun x5 x6 v W h => cho_any t t.length (pcP t t.length) B N x5 x6 (pcP_good t _) (pcP_ok t B N x5 x6 _) ⟨r0, [], 0⟩ v W h hv0 (by show 0 + 4 * vl t r0 ≤ 99998; omega) (by show 0 + vl t r0 ≤ 100000; omega)
  obtain ⟨⟨y, S2⟩, hy⟩ : ∃ q, choP t (pcP t t.length) ⟨r0, [], 0⟩ = q := ⟨_, rfl⟩
  have hS : patS t = S2 := by unfold patS; rw [hr0, hy]
  rw [hS, hb]
  rw [hy] at HCH
  obtain ⟨q, hq⟩ : ∃ q, endB t S2.r = q := ⟨_, rfl⟩
  rw [hq]
  obtain ⟨u, hu⟩ : ∃ u, restR t S2.r = u := ⟨_, rfl⟩
  have hTK := take_any t ⟨0, 0, 0⟩ (.slice none 0 0) (.bool false) (.bool false) (.int .i64 0) [94] (by simp) W B h.rd
  rw [hb, hr0] at hTK
  have HTK := Lib.hid hTK
  clear hS hy hTK hb hr0 hv0
  have f5 := fun w (h : RD w B t r0 (.slice none 0 0) (.bool false) (.bool false) (.int .i64 0)) => h.free 5
  go_enter Tryz.func32, Tryz.ntmps32
  go_wp2_with fail
  refine HTK.out.mono ?_
  rintro e w1 ⟨rfl, q1, g1⟩
  have h1 := h.step q1 g1
  obtain ⟨k4, k5, k6, k7⟩ := q1.cells2
  have fz5 := q1.free 5
  have p1 := PF.of (.slice none 0 0) g1
  clear f5
  go_wp2_with fail
  have h2 : PB (w1.setCell ⟨B, 5, none⟩ (.bool b)) B N t ⟨r0, [], 0⟩ (.slice none 0 0) (.bool b) (.bool false) :=
    ⟨q1.begins _, World.ownsRow_nil _ _ _ _, h1.st.keep (jgset w1 B 5 _) (fun e => by injection e; omega), hlo, hNB⟩
  have p2 := p1.trans (PF.of (.slice none 0 0) (jgset w1 B 5 (.bool b)))
  refine (HCH.out _ _ _ _ h2).mono ?_
  rintro e w2 ⟨rfl, v2, h3, p3⟩
  have p4 := p2.trans p3
  clear h1 q1 g1 p1 h2 p2 p3 k4 k5 k6 k7 fz5
  go_wp2_with fail
  refine (rest_any t S2.r v2 _ _ _ _ B h3.rd).mono ?_
  rintro e w3 ⟨rfl, hb3⟩
  rw [hu]
  have hqu : (u == [36]) = q := by rw [← hq]; unfold endB; rw [hu]; cases hx : (u == [36]) <;> simpa using hx
  have h4 := h3.step (h3.rd.below hb3 h3.lt) (jgrown B hb3)
  have p5 := p4.trans (PF.of v2 (jgrown B hb3))
  clear h3 p4 hb3
  obtain ⟨k4, k5, k6, k7⟩ := h4.rd.cells2
  have fz6 := h4.rd.free 6
  obtain ⟨r1, hEn⟩ : ∃ r, endR t S2.r = r := ⟨_, rfl⟩
  cases q with
  | true =>
    have hue : u = [36] := by simpa using hqu
    have htb : takeB t S2.r [36] = true := by unfold takeB; rw [hu, hue]; rfl
    have hr1 : takeR t S2.r [36] = r1 := by rw [← hEn]; unfold endR; rw [hq]; rfl
    have hTE := take_any t S2.r v2 (.bool b) (.bool false) (.int .i64 (S2.g : Int)) [36] (by simp) w3 B h4.rd
    rw [htb, hr1] at hTE
    have HTE := Lib.hid hTE
    clear hue htb hr1 hTE hq hu
    · go_wp2_with fail
      refine HTE.out.mono ?_
      rintro e w5 ⟨rfl, q5, g5⟩
      have h5 := h4.step q5 g5
      have p6 := p5.trans (PF.of v2 g5)
      clear k4 k5 k6 k7 fz6
      obtain ⟨k4, k5, k6, k7⟩ := q5.cells2
      have fz6 := q5.free 6
      clear q5 g5 h4 p5
      have h7 : PB (w5.setCell ⟨B, 6, none⟩ (.bool true)) B N t { S2 with r := r1 } v2 (.bool b) (.bool true) :=
        ⟨h5.rd.ends _, ownsRow_setCell_other h5.row (fun e => h5.ne e.symm) _, h5.st.keep (jgset w5 B 6 _) (fun e => by injection e; omega), hlo, hNB⟩
      have p7 := p6.trans (PF.of v2 (jgset w5 B 6 (.bool true)))
      clear h5 p6
      have hRE := rest_any t r1 v2 (.bool b) (.bool true) (.int .i64 (S2.g : Int))
      cases hu2 : restR t r1 with
      | nil =>
        have HL : Hid (lastR t S2.r = r1) := Lib.hid (by unfold lastR; rw [hEn, if_pos hu2])
        rw [hu2] at hRE
        have HRE := Lib.hid hRE
        clear hRE hEn hu2
        go_wp2_with fail
        refine (HRE.out _ B h7.rd).mono ?_
        rintro e w8 ⟨rfl, hb8⟩
        have h8 := h7.step (h7.rd.below hb8 h7.lt) (jgrown B hb8)
        have p8 := p7.trans (PF.of v2 (jgrown B hb8))
        go_wp2_with fail
        refine bodyPost_end (v := .tuple #[]) (by simp [Go.results, Tryz.results32, go_sem]) rfl ⟨rfl, v2, ?_, p8⟩
        rw [HL.out]
        exact h8
      | cons c u2 =>
        have HL : Hid (lastR t S2.r = failR r1 3 r1.k) := Lib.hid (by unfold lastR; rw [hEn, if_neg (by rw [hu2]; simp)])
        have hne : (c :: u2).isEmpty = false := rfl
        rw [hu2] at hRE
        have HRE := Lib.hid hRE
        clear hRE hEn hu2
        go_wp2_with fail
        refine (HRE.out _ B h7.rd).mono ?_
        rintro e w8 ⟨rfl, hb8⟩
        have h8 := h7.step (h7.rd.below hb8 h7.lt) (jgrown B hb8)
        have p8 := p7.trans (PF.of v2 (jgrown B hb8))
        obtain ⟨c0, c1, c2, c3⟩ := h8.rd.cells
        go_wp2_with fail
        go_region_with (go_at_call 54; refine (fail_any t r1 v2 _ _ _ 3 r1.k _ B h8.rd.drew).mono ?_; rintro e w9 ⟨rfl, q9, g9⟩)
        have g10 := jgtrans (jgdrew (jgrefl w8 (some B))) g9
        have h9 := h8.step q9 g10
        have p9 := p8.trans (PF.of v2 g10)
        go_wp2_with fail
        refine bodyPost_end (v := .tuple #[]) (by simp [Go.results, Tryz.results32, go_sem]) rfl ⟨rfl, v2, ?_, p9⟩
        rw [HL.out]
        exact h9
  | false =>
    have hr1 : S2.r = r1 := by rw [← hEn]; unfold endR; rw [hq]; rfl
    have h5 : PB w3 B N t { S2 with r := r1 } v2 (.bool b) (.bool false) := by rw [← hr1]; exact h4
    have p6 := p5
    clear hr1 hq hu h4 p5
    · skip
      have h7 : PB (w3.setCell ⟨B, 6, none⟩ (.bool false)) B N t { S2 with r := r1 } v2 (.bool b) (.bool false) :=
        ⟨h5.rd.ends _, ownsRow_setCell_other h5.row (fun e => h5.ne e.symm) _, h5.st.keep (jgset w3 B 6 _) (fun e => by injection e; omega), hlo, hNB⟩
      have p7 := p6.trans (PF.of v2 (jgset w3 B 6 (.bool false)))
      clear h5 p6
      have hRE := rest_any t r1 v2 (.bool b) (.bool false) (.int .i64 (S2.g : Int))
      cases hu2 : restR t r1 with
      | nil =>
        have HL : Hid (lastR t S2.r = r1) := Lib.hid (by unfold lastR; rw [hEn, if_pos hu2])
        rw [hu2] at hRE
        have HRE := Lib.hid hRE
        clear hRE hEn hu2
        go_wp2_with fail
        refine (HRE.out _ B h7.rd).mono ?_
        rintro e w8 ⟨rfl, hb8⟩
        have h8 := h7.step (h7.rd.below hb8 h7.lt) (jgrown B hb8)
        have p8 := p7.trans (PF.of v2 (jgrown B hb8))
        go_wp2_with fail
        refine bodyPost_end (v := .tuple #[]) (by simp [Go.results, Tryz.results32, go_sem]) rfl ⟨rfl, v2, ?_, p8⟩
        rw [HL.out]
        exact h8
      | cons c u2 =>
        have HL : Hid (lastR t S2.r = failR r1 3 r1.k) := Lib.hid (by unfold lastR; rw [hEn, if_neg (by rw [hu2]; simp)])
        have hne : (c :: u2).isEmpty = false := rfl
        rw [hu2] at hRE
        have HRE := Lib.hid hRE
        clear hRE hEn hu2
        go_wp2_with fail
        refine (HRE.out _ B h7.rd).mono ?_
        rintro e w8 ⟨rfl, hb8⟩
        have h8 := h7.step (h7.rd.below hb8 h7.lt) (jgrown B hb8)
        have p8 := p7.trans (PF.of v2 (jgrown B hb8))
        obtain ⟨c0, c1, c2, c3⟩ := h8.rd.cells
        go_wp2_with fail
        go_region_with (go_at_call 54; refine (fail_any t r1 v2 _ _ _ 3 r1.k _ B h8.rd.drew).mono ?_; rintro e w9 ⟨rfl, q9, g9⟩)
        have g10 := jgtrans (jgdrew (jgrefl w8 (some B))) g9
        have h9 := h8.step q9 g10
        have p9 := p8.trans (PF.of v2 g10)
        go_wp2_with fail
        refine bodyPost_end (v := .tuple #[]) (by simp [Go.results, Tryz.results32, go_sem]) rfl ⟨rfl, v2, ?_, p9⟩
        rw [HL.out]
        exact h9
end Go.Proofs.YtdnbnigebejgjaaGreatDoor
namespace Go.Proofs.YtdnbnigebejgjaaGreatDoor
open Go.RowKit
/-- The slice holds the nodes. -/
def NdsIn (w : World) (p : Option Addr) (L : List ND) : Prop := CellsIn w p (L.length * 9) (fun j => (ndsC L).getD j (.int .i64 0))
def NdsAt (w : World) (v : Value) (L : List ND) : Prop := ∃ p cap, v = .slice p L.length cap ∧ (p = none → cap = 0) ∧ NdsIn w p L
theorem NdsAt.below {k : Nat} {w w' : World} {v : Value} {L : List ND} (h : NdsAt w v L) (hb : Below k w w') (hk : w.heap.size ≤ k) : NdsAt w' v L := by
  obtain ⟨p, cap, h1, h2, h3⟩ := h
  exact ⟨p, cap, h1, h2, h3.below hb hk⟩
theorem NdsAt.nil (w : World) : NdsAt w (.slice none 0 0) [] := ⟨none, 0, rfl, fun _ => rfl, fun j hj => absurd hj (by simp)⟩
theorem nds_of_own {w : World} {base : Nat} {e : TypeId} {v : Value} {L : List ND} (h : w.ownsRow base e 9 v L.length (ndsC L)) : NdsAt w v L := by
  obtain ⟨p, cap, rfl, h2⟩ := cells_of_own h (ndsC_length L)
  refine ⟨p, cap, rfl, fun hp => ?_, h2⟩
  subst hp
  rcases h.2 with ⟨h3, _⟩ | ⟨g, cap, cur, h3, _⟩
  · injection h3
  · simp at h3
/-- A tree as a value: its slice of nodes is v. -/
def treeV (v : Value) (T : TR) : Value := .agg #[v, .bool T.b, .bool T.en, .int .i64 T.g]
theorem tree_results {w : World} {B C : Nat} {v0 v1 v2 v3 a b : Value} (h1 : CBlk 25 w B [v0, v1, v2, v3]) (h2 : CBlk 28 w C [a, b]) {fn : Func} {p q : Tmp} (h : fn.results = #[.cell p 25, .cell q 28]) (tmps : Array Value)
    (hp : tmps.getD p undef = .pointer (some ⟨B, 0, none⟩)) (hq : tmps.getD q undef = .pointer (some ⟨C, 0, none⟩)) : (Go.results fn tmps).run Tryz.prog w = .ok (.tuple #[.agg #[v0, v1, v2, v3], .agg #[a, b]]) w := by
  have hp' : tmps[p]?.getD undef = .pointer (some ⟨B, 0, none⟩) := by simpa using hp
  have hq' : tmps[q]?.getD undef = .pointer (some ⟨C, 0, none⟩) := by simpa using hq
  have c0 := h1.cell 0 (by simp)
  have c1 := h1.cell 1 (by simp)
  have c2 := h1.cell 2 (by simp)
  have c3 := h1.cell 3 (by simp)
  have d0 := h2.cell 0 (by simp)
  have d1 := h2.cell 1 (by simp)
  simp only [List.getElem_cons_succ, List.getElem_cons_zero] at c0 c1 c2 c3 d0 d1
  simp [Go.results, h, hp', hq', asAddr, go_sem, c0, c1, c2, c3, d0, d1]
set_option maxHeartbeats 4000000 in
set_option maxRecDepth 100000 in
theorem parse19_any (l : List UInt8) (W : World) (hS : ST W) :
    Calls Tryz.prog 7 #[.string ⟨l.toArray⟩] W fun e w' => ∃ v, e = .returned (.tuple #[treeV v (parP l).1, .agg #[.int .i64 ((parP l).2.1 : Int), .int .i64 ((parP l).2.2 : Int)]]) ∧ NdsAt w' v (parP l).1.L ∧ Below W.heap.size W w' := by
  have hlo := hS.lt
  by_cases hl : 64 < l.length
  · have HP : Hid (parP l = (.none, 4, 64)) := Lib.hid (if_pos hl)
    have a1 : decide ((64 : Int) < (l.length : Int)) = true := decide_eq_true (by omega)
    clear hl
    go_enter Tryz.func7, Tryz.ntmps7
    go_wp2_with fail
    have h1 : CBlk 25 ((W.alloc (.cells #[.slice none 0 0, .bool false, .bool false, .int .i64 0] 25)).alloc (.cells #[.int .i64 4, .int .i64 64] 28)) W.heap.size [.slice none 0 0, .bool false, .bool false, .int .i64 0] := (CBlk.new _ W _).alloc _
    have h2 : CBlk 28 ((W.alloc (.cells #[.slice none 0 0, .bool false, .bool false, .int .i64 0] 25)).alloc (.cells #[.int .i64 4, .int .i64 64] 28)) (W.heap.size + 1) [.int .i64 4, .int .i64 64] := by
      have := CBlk.new 28 (W.alloc (.cells #[.slice none 0 0, .bool false, .bool false, .int .i64 0] 25)) [.int .i64 4, .int .i64 64]
      rwa [World.size_alloc] at this
    refine bodyPost_ret (tree_results h1 h2 rfl _ rfl rfl) rfl ⟨.slice none 0 0, ?_, ?_, ((Below.refl _ W).alloc (Nat.le_refl _) _).alloc (by simp) _⟩
    · rw [HP.out]; rfl
    · rw [HP.out]; exact NdsAt.nil _
  · have a1 : decide ((64 : Int) < (l.length : Int)) = false := decide_eq_false (by omega)
    have hP := fun (W : World) => pattern_any l (by omega) (W.heap.size + 1 + 1) W.heap.size
    have hPar : parP l = if (lastR l (patS l).r).e = 0 then (⟨(patS l).L, takeB l ⟨0, 0, 0⟩ [94], endB l (patS l).r, ((patS l).g : Int)⟩, 0, 0) else (.none, (lastR l (patS l).r).e, (lastR l (patS l).r).a) := if_neg hl
    obtain ⟨r, hr⟩ : ∃ r, lastR l (patS l).r = r := ⟨_, rfl⟩
    obtain ⟨b, hb⟩ : ∃ r, takeB l ⟨0, 0, 0⟩ [94] = r := ⟨_, rfl⟩
    obtain ⟨en, hen⟩ : ∃ r, endB l (patS l).r = r := ⟨_, rfl⟩
    obtain ⟨L, hL⟩ : ∃ r, (patS l).L = r := ⟨_, rfl⟩
    obtain ⟨g, hg⟩ : ∃ r, (patS l).g = r := ⟨_, rfl⟩
    have hs : ({ patS l with r := lastR l (patS l).r } : PS) = ⟨r, L, g⟩ := by rw [← hL, ← hg, ← hr]
    rw [hr, hb, hen, hL, hg] at hPar
    rw [hs, hb, hen] at hP
    have HP := Lib.hid hP
    have HPar := Lib.hid hPar
    have hlen : l.length ≤ 1000 := by omega
    clear hP hPar hr hb hen hL hg hs hl
    go_enter Tryz.func7, Tryz.ntmps7
    go_wp2_with fail
    have b1 : CBlk 25 (((W.alloc (.cells #[.slice none 0 0, .bool false, .bool false, .int .i64 0] 25)).alloc (.cells #[.int .i64 0, .int .i64 0] 28)).alloc (.cells #[.string ⟨l.toArray⟩, .int .i64 0, .int .i64 0, .int .i64 0, .slice none 0 0, .bool false, .bool false, .int .i64 0] 64)) W.heap.size [.slice none 0 0, .bool false, .bool false, .int .i64 0] := ((CBlk.new _ W _).alloc _).alloc _
    have b2 : CBlk 28 (((W.alloc (.cells #[.slice none 0 0, .bool false, .bool false, .int .i64 0] 25)).alloc (.cells #[.int .i64 0, .int .i64 0] 28)).alloc (.cells #[.string ⟨l.toArray⟩, .int .i64 0, .int .i64 0, .int .i64 0, .slice none 0 0, .bool false, .bool false, .int .i64 0] 64)) (W.heap.size + 1) [.int .i64 0, .int .i64 0] := by
      have := (CBlk.new 28 (W.alloc (.cells #[.slice none 0 0, .bool false, .bool false, .int .i64 0] 25)) [.int .i64 0, .int .i64 0]).alloc (.cells #[.string ⟨l.toArray⟩, .int .i64 0, .int .i64 0, .int .i64 0, .slice none 0 0, .bool false, .bool false, .int .i64 0] 64)
      rwa [World.size_alloc] at this
    have b3 : CBlk 64 (((W.alloc (.cells #[.slice none 0 0, .bool false, .bool false, .int .i64 0] 25)).alloc (.cells #[.int .i64 0, .int .i64 0] 28)).alloc (.cells #[.string ⟨l.toArray⟩, .int .i64 0, .int .i64 0, .int .i64 0, .slice none 0 0, .bool false, .bool false, .int .i64 0] 64)) (W.heap.size + 1 + 1) [.string ⟨l.toArray⟩, .int .i64 0, .int .i64 0, .int .i64 0, .slice none 0 0, .bool false, .bool false, .int .i64 0] := by
      have := CBlk.new 64 ((W.alloc (.cells #[.slice none 0 0, .bool false, .bool false, .int .i64 0] 25)).alloc (.cells #[.int .i64 0, .int .i64 0] 28)) [.string ⟨l.toArray⟩, .int .i64 0, .int .i64 0, .int .i64 0, .slice none 0 0, .bool false, .bool false, .int .i64 0]
      rwa [World.size_alloc, World.size_alloc] at this
    have hX : Below W.heap.size W (((W.alloc (.cells #[.slice none 0 0, .bool false, .bool false, .int .i64 0] 25)).alloc (.cells #[.int .i64 0, .int .i64 0] 28)).alloc (.cells #[.string ⟨l.toArray⟩, .int .i64 0, .int .i64 0, .int .i64 0, .slice none 0 0, .bool false, .bool false, .int .i64 0] 64)) :=
      (((Below.refl _ W).alloc (Nat.le_refl _) _).alloc (by simp) _).alloc (by simp; omega) _
    generalize hXe : ((W.alloc (.cells #[.slice none 0 0, .bool false, .bool false, .int .i64 0] 25)).alloc (.cells #[.int .i64 0, .int .i64 0] 28)).alloc (.cells #[.string ⟨l.toArray⟩, .int .i64 0, .int .i64 0, .int .i64 0, .slice none 0 0, .bool false, .bool false, .int .i64 0] 64) = X at b1 b2 b3 hX ⊢
    clear hXe
    refine (HP.out W X ⟨⟨Nat.zero_le _, hlen, b3⟩, World.ownsRow_nil _ _ _ _, hS.below hX, hlo, by omega⟩).mono ?_
    rintro e w1 ⟨rfl, v, h1, p1⟩
    have c1 := p1.kept b1 (by omega) (by simp [Value.ownBlock])
    have c2 := p1.kept b2 (by omega) (by simp [Value.ownBlock])
    have hB : Below W.heap.size W w1 := hX.trans (p1.below (by omega) (by simp [Value.ownBlock]) hX.size)
    obtain ⟨k0, k1, k2, k3⟩ := h1.rd.cells
    obtain ⟨k4, k5, k6, k7⟩ := h1.rd.cells2
    obtain ⟨cp, cc, hv⟩ := own_slice h1.row
    subst hv
    have t0 := c1.cell 0 (by simp)
    have t1 := c1.cell 1 (by simp)
    have t2 := c1.cell 2 (by simp)
    have t3 := c1.cell 3 (by simp)
    have u0 := c2.cell 0 (by simp)
    have u1 := c2.cell 1 (by simp)
    simp only [List.getElem_cons_succ, List.getElem_cons_zero] at t0 t1 t2 t3 u0 u1
    have tf0 := c1.free 0
    have tf1 := c1.free 1
    have tf2 := c1.free 2
    have tf3 := c1.free 3
    have uf0 := c2.free 0
    have uf1 := c2.free 1
    clear b1 b2 b3 hX
    by_cases he : r.e = 0
    · have e0 : ((r.e : Int) == 0) = true := by simp [he]
      have e1 : ((r.e : Int) != 0) = false := by simp [he]
      have HQ : Hid (parP l = (⟨L, b, en, (g : Int)⟩, 0, 0)) := Lib.hid (HPar.out.trans (if_pos he))
      clear he
      go_wp2_with fail
      have c3 : CBlk 25 ((((((w1.setCell ⟨W.heap.size, 0, none⟩ (.slice cp L.length cc)).setCell ⟨W.heap.size, 1, none⟩ (.bool b)).setCell ⟨W.heap.size, 2, none⟩ (.bool en)).setCell ⟨W.heap.size, 3, none⟩ (.int .i64 (g : Int))).setCell ⟨W.heap.size + 1, 0, none⟩ (.int .i64 0)).setCell ⟨W.heap.size + 1, 1, none⟩ (.int .i64 0)) W.heap.size [.slice cp L.length cc, .bool b, .bool en, .int .i64 (g : Int)] :=
        (((((c1.set 0 (.slice cp L.length cc)).set 1 (.bool b)).set 2 (.bool en)).set 3 (.int .i64 (g : Int))).other ⟨W.heap.size + 1, 0, none⟩ (by show W.heap.size + 1 ≠ _; omega) _).other ⟨W.heap.size + 1, 1, none⟩ (by show W.heap.size + 1 ≠ _; omega) _
      have c4 : CBlk 28 ((((((w1.setCell ⟨W.heap.size, 0, none⟩ (.slice cp L.length cc)).setCell ⟨W.heap.size, 1, none⟩ (.bool b)).setCell ⟨W.heap.size, 2, none⟩ (.bool en)).setCell ⟨W.heap.size, 3, none⟩ (.int .i64 (g : Int))).setCell ⟨W.heap.size + 1, 0, none⟩ (.int .i64 0)).setCell ⟨W.heap.size + 1, 1, none⟩ (.int .i64 0)) (W.heap.size + 1) [.int .i64 0, .int .i64 0] :=
        (((((c2.other ⟨W.heap.size, 0, none⟩ (by show W.heap.size ≠ _; omega) _).other ⟨W.heap.size, 1, none⟩ (by show W.heap.size ≠ _; omega) _).other ⟨W.heap.size, 2, none⟩ (by show W.heap.size ≠ _; omega) _).other ⟨W.heap.size, 3, none⟩ (by show W.heap.size ≠ _; omega) _).set 0 (.int .i64 0)).set 1 (.int .i64 0)
      refine bodyPost_ret (tree_results c3 c4 rfl _ rfl rfl) rfl ⟨.slice cp L.length cc, ?_, ?_, ?_⟩
      · rw [HQ.out]; rfl
      · rw [HQ.out]
        have hne1 : (Value.slice cp L.length cc).ownBlock ≠ some W.heap.size := fun e => CBlk.not_row c1 (by decide) h1.row e.symm
        have hne2 : (Value.slice cp L.length cc).ownBlock ≠ some (W.heap.size + 1) := fun e => CBlk.not_row c2 (by decide) h1.row e.symm
        exact nds_of_own (ownsRow_setCell_other (ownsRow_setCell_other (ownsRow_setCell_other (ownsRow_setCell_other (ownsRow_setCell_other (ownsRow_setCell_other h1.row hne1 _) hne1 _) hne1 _) hne1 _) hne2 _) hne2 _)
      · exact (((((hB.setCell (p := ⟨W.heap.size, 0, none⟩) (Nat.le_refl _) _).setCell (p := ⟨W.heap.size, 1, none⟩) (Nat.le_refl _) _).setCell (p := ⟨W.heap.size, 2, none⟩) (Nat.le_refl _) _).setCell (p := ⟨W.heap.size, 3, none⟩) (Nat.le_refl _) _).setCell (p := ⟨W.heap.size + 1, 0, none⟩) (Nat.le_succ _) _).setCell (p := ⟨W.heap.size + 1, 1, none⟩) (Nat.le_succ _) _
    · have e0 : ((r.e : Int) == 0) = false := by simpa using he
      have e1 : ((r.e : Int) != 0) = true := by simpa using he
      have HQ : Hid (parP l = (.none, r.e, r.a)) := Lib.hid (HPar.out.trans (if_neg he))
      clear he
      go_wp2_with fail
      go_region
      all_goals
        go_wp2_with fail
        have c3 : CBlk 25 ((((((w1.setCell ⟨W.heap.size, 0, none⟩ (.slice none 0 0)).setCell ⟨W.heap.size, 1, none⟩ (.bool false)).setCell ⟨W.heap.size, 2, none⟩ (.bool false)).setCell ⟨W.heap.size, 3, none⟩ (.int .i64 0)).setCell ⟨W.heap.size + 1, 0, none⟩ (.int .i64 (r.e : Int))).setCell ⟨W.heap.size + 1, 1, none⟩ (.int .i64 (r.a : Int))).drew W.heap.size [.slice none 0 0, .bool false, .bool false, .int .i64 0] :=
          CBlk.drew <| (((((c1.set 0 (.slice none 0 0)).set 1 (.bool false)).set 2 (.bool false)).set 3 (.int .i64 0)).other ⟨W.heap.size + 1, 0, none⟩ (by show W.heap.size + 1 ≠ _; omega) _).other ⟨W.heap.size + 1, 1, none⟩ (by show W.heap.size + 1 ≠ _; omega) _
        have c4 : CBlk 28 ((((((w1.setCell ⟨W.heap.size, 0, none⟩ (.slice none 0 0)).setCell ⟨W.heap.size, 1, none⟩ (.bool false)).setCell ⟨W.heap.size, 2, none⟩ (.bool false)).setCell ⟨W.heap.size, 3, none⟩ (.int .i64 0)).setCell ⟨W.heap.size + 1, 0, none⟩ (.int .i64 (r.e : Int))).setCell ⟨W.heap.size + 1, 1, none⟩ (.int .i64 (r.a : Int))).drew (W.heap.size + 1) [.int .i64 (r.e : Int), .int .i64 (r.a : Int)] :=
          CBlk.drew <| (((((c2.other ⟨W.heap.size, 0, none⟩ (by show W.heap.size ≠ _; omega) _).other ⟨W.heap.size, 1, none⟩ (by show W.heap.size ≠ _; omega) _).other ⟨W.heap.size, 2, none⟩ (by show W.heap.size ≠ _; omega) _).other ⟨W.heap.size, 3, none⟩ (by show W.heap.size ≠ _; omega) _).set 0 (.int .i64 (r.e : Int))).set 1 (.int .i64 (r.a : Int))
        refine bodyPost_ret (tree_results c3 c4 rfl _ rfl rfl) rfl ⟨.slice none 0 0, ?_, ?_, ?_⟩
        · rw [HQ.out]; rfl
        · rw [HQ.out]; exact NdsAt.nil _
        · exact ((((((hB.setCell (p := ⟨W.heap.size, 0, none⟩) (Nat.le_refl _) _).setCell (p := ⟨W.heap.size, 1, none⟩) (Nat.le_refl _) _).setCell (p := ⟨W.heap.size, 2, none⟩) (Nat.le_refl _) _).setCell (p := ⟨W.heap.size, 3, none⟩) (Nat.le_refl _) _).setCell (p := ⟨W.heap.size + 1, 0, none⟩) (Nat.le_succ _) _).setCell (p := ⟨W.heap.size + 1, 1, none⟩) (Nat.le_succ _) _).drew
end Go.Proofs.YtdnbnigebejgjaaGreatDoor
