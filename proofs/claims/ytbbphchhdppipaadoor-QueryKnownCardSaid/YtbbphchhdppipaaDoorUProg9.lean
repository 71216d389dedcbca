/-
  The program's Decoded, for texts shorter than 90000 bytes.
-/
import Derived.Test.YtbbphchhdppipaaDoorUProg8
namespace Go.Proofs.YtbbphchhdppipaaDoor
open Go.RowKit
/-- What decoding a text gives: a text, an error code and an offset. -/
theorem dec_parts (n : List UInt8) : ∃ (T : List UInt8) (j : Int), decV (decL n 0) = .tuple #[.string ⟨T.toArray⟩, .agg #[.int .i64 (if okE n then 0 else 3), .int .i64 j]] ∧ (okE n = true → T = unL n) := by
  cases h : okE n with
  | true => exact ⟨unL n, 0, by rw [dec_ok h 0]; rfl, fun _ => rfl⟩
  | false =>
    obtain ⟨j, hj⟩ := dec_no h 0
    exact ⟨[], j, by rw [hj]; rfl, fun h => by cases h⟩
theorem dec_bad {q : List UInt8} (hc : chkN q = 0) {P : Pr} (hm : P ∈ pairsL q) (h : okP P = false) : decR q = .inl 3 := by
  have h1 := ok_pairs q
  rw [List.all_eq_false.2 ⟨P, hm, by simp [h]⟩] at h1
  unfold decR
  rw [if_pos hc, ← h1]
  rfl
theorem dec_all {q : List UInt8} (hc : chkN q = 0) (h : (pairsL q).all okP = true) : decR q = .inr ((pairsL q).map unP) := by
  rw [ok_pairs] at h
  unfold decR
  rw [if_pos hc, h]
  rfl
set_option maxRecDepth 100000 in
set_option maxHeartbeats 8000000 in
theorem decoded_any (q : List UInt8) (hl : q.length < 90000) (w : World) :
    Calls Tryd.prog 22 #[.string ⟨q.toArray⟩] w fun e w' => PrsPost w.heap.size (decR q) e w' ∧ Below w.heap.size w w' := by
  have HPR : Hid (∀ W, Calls Tryd.prog 19 #[.string ⟨q.toArray⟩] W fun e w' => PrsPost W.heap.size (prsR q) e w' ∧ Below W.heap.size W w') := Lib.hid fun W => pairs_any q hl W
  by_cases hc : chkN q = 0
  · have hP : prsR q = .inr (pairsL q) := by unfold prsR; rw [if_pos hc]
    have hq128 := chk_len hc
    have hmem : ∀ p ∈ pairsL q, p.nm.length ≤ q.length ∧ p.vl.length ≤ q.length := fun p hp => pairs_mem hp
    have hplen := pairs_len q
    have hbad : ∀ P ∈ pairsL q, okP P = false → decR q = .inl 3 := fun P hm h => dec_bad hc hm h
    have hall := fun h => dec_all hc h
    obtain ⟨R, hR⟩ : ∃ R, decR q = R := ⟨_, rfl⟩
    rw [hR] at hbad hall ⊢
    obtain ⟨L, hL⟩ : ∃ L, pairsL q = L := ⟨_, rfl⟩
    rw [hL] at hP hmem hplen hbad hall
    have HP := Lib.hid hP
    have HMEM := Lib.hid hmem
    have HBAD := Lib.hid hbad
    have HALL := Lib.hid hall
    clear hc hP hmem hbad hall hL hR
    go_enter Tryd.func22, Tryd.ntmps22
    go_wp2_with fail
    refine (HPR.out _).mono ?_
    rintro e w1 ⟨hpost, hb1⟩
    rw [HP.out] at hpost
    obtain ⟨v, rfl, hrow⟩ := hpost
    obtain ⟨ov, oc, rfl⟩ := own_slice hrow
    go_wp2_with fail
    go_loopw [23] (fun i wr => ∃ k : Nat, k ≤ L.length ∧ i = .int .i64 k ∧ wr.ownsRow w.heap.size 40 3 (.slice ov L.length oc) L.length (prsC (mixU k L)) ∧ Hid ((L.take k).all okP = true) ∧ Below w.heap.size w wr) (fun i _ => L.length - (intOf i).toNat)
    case atStart => exact ⟨0, by omega, rfl, by rw [mixU_zero]; exact hrow, Lib.hid rfl, hb1⟩
    case round =>
    clear hrow hb1
    obtain ⟨k, hk, rfl, hrow, hok, hB⟩ := hrel
    by_cases hlt : k < L.length
    · have d1 : decide ((k : Int) < (L.length : Int)) = true := decide_eq_true (by omega)
      have hb2 : (k : Int) < (L.length : Int) := by omega
      obtain ⟨g, cap, hv, -, -⟩ := hrow.form (by omega)
      injection hv with e1 e2 e3
      subst e1 e3
      obtain ⟨x0, x1, x2⟩ := mixU_at hlt
      have hset := mixU_set hlt
      have y0 := hrow.cellAt (k * 3) (by omega)
      have y1 := hrow.cellAt (k * 3 + 1) (by omega)
      have y2 := hrow.cellAt (k * 3 + 2) (by omega)
      rw [x0] at y0
      rw [x1] at y1
      rw [x2] at y2
      have hgl := (hrow.lt g rfl)
      have hm2 := (HMEM.out _ (List.getElem_mem hlt))
      have hbk := HBAD.out _ (List.getElem_mem hlt)
      have hst : okP L[k] = true → (L.take (k + 1)).all okP = true := fun h => by
        rw [List.take_succ_eq_append_getElem hlt, List.all_append, hok.out]
        simp [h]
      obtain ⟨P, hP⟩ : ∃ P, L[k] = P := ⟨_, rfl⟩
      rw [hP] at y0 y1 y2 hset hm2 hbk hst
      clear hP x0 x1 x2
      obtain ⟨n, u, br⟩ := P
      dsimp only at y0 y1 y2 hset hm2
      obtain ⟨T1, j1, hd1, ht1⟩ := dec_parts n
      obtain ⟨T2, j2, hd2, ht2⟩ := dec_parts u
      have hokp : okP ⟨n, u, br⟩ = (okE n && okE u) := rfl
      rw [hokp] at hbk hst
      obtain ⟨a1, ha1⟩ : ∃ a, okE n = a := ⟨_, rfl⟩
      obtain ⟨a2, ha2⟩ : ∃ a, okE u = a := ⟨_, rfl⟩
      rw [ha1] at hd1 ht1 hbk hst
      rw [ha2] at hd2 ht2 hbk hst
      obtain ⟨z1, hz1⟩ : ∃ z : Int, (if a1 = true then 0 else 3) = z := ⟨_, rfl⟩
      obtain ⟨z2, hz2⟩ : ∃ z : Int, (if a2 = true then 0 else 3) = z := ⟨_, rfl⟩
      rw [hz1] at hd1
      rw [hz2] at hd2
      obtain ⟨z, hz⟩ : ∃ z : Int, (if z1 = 0 then z2 else z1) = z := ⟨_, rfl⟩
      have HD1 := Lib.hid hd1
      have HD2 := Lib.hid hd2
      have HOR : Hid (∀ (W : World) (B : Nat), W.heap.size = B → Calls Tryd.prog 53 #[.slice (some ⟨B, 0, none⟩) 2 2] (W.alloc (.cells #[.int .i64 z1, .int .i64 z2] 28)) fun e w' => e = .returned (.int .i64 z) ∧ w' = W.alloc (.cells #[.int .i64 z1, .int .i64 z2] 28)) := Lib.hid fun W B hB => by
        have h := or2_any z1 z2 W
        rw [hz, hB] at h
        exact h
      have p0 : CBlk 40 (wr.alloc (.cells #[.string ⟨n.toArray⟩, .string ⟨u.toArray⟩, .bool br] 40)) wr.heap.size [.string ⟨n.toArray⟩, .string ⟨u.toArray⟩, .bool br] := CBlk.new _ wr _
      have hBa := hB.alloc hB.size (.cells #[.string ⟨n.toArray⟩, .string ⟨u.toArray⟩, .bool br] 40)
      have hrowa := hrow.alloc (.cells #[.string ⟨n.toArray⟩, .string ⟨u.toArray⟩, .bool br] 40)
      have hn100 : n.length < 1000000 := by omega
      have hu100 : u.length < 1000000 := by omega
      have hcase : (z = 0 ∧ a1 = true ∧ a2 = true) ∨ (z = 3 ∧ (a1 && a2) = false) := by
        rw [← hz, ← hz1, ← hz2]
        cases a1 <;> cases a2 <;> simp
      rcases hcase with ⟨hz0, h1, h2⟩ | ⟨hz0, h1⟩
      · have hT1 := ht1 h1
        have hT2 := ht2 h2
        rw [← hT1, ← hT2] at hset
        have HSET := Lib.hid hset
        have hnext := Lib.hid (hst (by rw [h1, h2]; rfl))
        have e0 : (z != 0) = false := by rw [hz0]; rfl
        clear hset hd1 hd2 ht1 ht2 hbk hst hokp ha1 ha2 hz1 hz2 hz hT1 hT2 hz0 h1 h2 hm2 hok
        go_wp2_with fail
        refine (decode_any n hn100 _).mono ?_
        rintro e w3 ⟨rfl, hb3⟩
        rw [HD1.out]
        have p3 := (p0.below hb3 p0.lt).alloc (.cells #[.int .i64 z1, .int .i64 j1] 48)
        have f3 : CBlk 48 (w3.alloc (.cells #[.int .i64 z1, .int .i64 j1] 48)) w3.heap.size [.int .i64 z1, .int .i64 j1] := CBlk.new _ w3 _
        have hB3 := hBa.trans (hb3.mono hBa.size)
        have hB4 := hB3.alloc hB3.size (.cells #[.int .i64 z1, .int .i64 j1] 48)
        have hrow4 := (own_belowR hrowa hb3).alloc (.cells #[.int .i64 z1, .int .i64 j1] 48)
        have c1 := (p0.below hb3 p0.lt).cell 1 (by simp)
        have c1a := ((p0.below hb3 p0.lt).alloc (.cells #[.int .i64 z1, .int .i64 j1] 48)).cell 1 (by simp)
        have hne3 := Nat.ne_of_lt (p0.below hb3 p0.lt).lt
        have hs3 := hb3.size
        rw [World.size_alloc] at hs3
        clear hb3 hrow hrowa hB hBa p0 y0 y1 y2 hB3
        go_wp2_with fail
        obtain ⟨F1, hF1⟩ : ∃ F1, w3.heap.size = F1 := ⟨_, rfl⟩
        obtain ⟨w4, hw4⟩ : ∃ w4, w3.alloc (.cells #[.int .i64 z1, .int .i64 j1] 48) = w4 := ⟨_, rfl⟩
        rw [hF1] at f3 hs3
        rw [hw4] at p3 f3 hB4 hrow4
        try rw [hF1]
        try rw [hw4]
        clear hF1 hw4 c1 c1a hne3
        refine (decode_any u hu100 _).mono ?_
        rintro e w5 ⟨rfl, hb5⟩
        rw [HD2.out]
        have f5 := (f3.below hb5 f3.lt).alloc (.cells #[.int .i64 z2, .int .i64 j2] 48)
        have g5 : CBlk 48 (w5.alloc (.cells #[.int .i64 z2, .int .i64 j2] 48)) w5.heap.size [.int .i64 z2, .int .i64 j2] := CBlk.new _ w5 _
        have hB5 := hB4.trans (hb5.mono hB4.size)
        have hB6 := hB5.alloc hB5.size (.cells #[.int .i64 z2, .int .i64 j2] 48)
        have hrow6 := (own_belowR hrow4 hb5).alloc (.cells #[.int .i64 z2, .int .i64 j2] 48)
        have c2 := f5.cell 0 (by simp)
        have c3 := (f3.below hb5 f3.lt).cell 0 (by simp)
        have hf5 := (f3.below hb5 f3.lt).lt
        have hne5 := Nat.ne_of_lt hf5
        clear hb5 hB4 hrow4 f3 p3 hB5
        go_wp2_with fail
        refine (HOR.out (w5.alloc (.cells #[.int .i64 z2, .int .i64 j2] 48)) _ (by simp)).mono ?_
        rintro e w' ⟨rfl, rfl⟩
        have hB7 := hB6.alloc hB6.size (.cells #[.int .i64 z1, .int .i64 z2] 28)
        have hrow7 := hrow6.alloc (.cells #[.int .i64 z1, .int .i64 z2] 28)
        obtain ⟨w7, hw7⟩ : ∃ w7, ((w5.alloc (.cells #[.int .i64 z2, .int .i64 j2] 48)).alloc (.cells #[.int .i64 z1, .int .i64 z2] 28)) = w7 := ⟨_, rfl⟩
        rw [hw7] at hB7 hrow7
        try rw [hw7]
        clear hw7 hB6 hrow6 f5 g5 c2 c3
        have z0 := hrow7.cellAt (k * 3) (by omega)
        have z1' := hrow7.cellAt (k * 3 + 1) (by omega)
        obtain ⟨x0, x1, x2⟩ := mixU_at hlt
        rw [x0] at z0
        rw [x1] at z1'
        have g0 := hrow7.frozenAt (k * 3)
        have g1 := hrow7.frozenAt (k * 3 + 1)
        have hrow8 := (hrow7.stored (k * 3) (.string ⟨T1.toArray⟩)).1
        have hrow9 := (hrow8.stored (k * 3 + 1) (.string ⟨T2.toArray⟩)).1
        have hB9 := (hB7.setCell (p := ⟨g, k * 3, none⟩) hgl.1 (.string ⟨T1.toArray⟩)).setCell (p := ⟨g, k * 3 + 1, none⟩) hgl.1 (.string ⟨T2.toArray⟩)
        rw [HSET.out] at hrow9
        clear hrow7 hrow8 hB7 x0 x1 x2
        go_wp2_with fail
        go_roundw
        case rel => exact ⟨k + 1, by omega, by go_num, hrow9, hnext, hB9⟩
        case measure => simp [intOf]; omega
      · have hres : Hid (R = .inl 3) := Lib.hid (hbk h1)
        have e0 : (z != 0) = true := by rw [hz0]; rfl
        have HZ := Lib.hid hz0
        clear hset hd1 hd2 ht1 ht2 hbk hst hokp ha1 ha2 hz1 hz2 hz hz0 h1 hm2 hok
        go_wp2_with fail
        refine (decode_any n hn100 _).mono ?_
        rintro e w3 ⟨rfl, hb3⟩
        rw [HD1.out]
        have f3 : CBlk 48 (w3.alloc (.cells #[.int .i64 z1, .int .i64 j1] 48)) w3.heap.size [.int .i64 z1, .int .i64 j1] := CBlk.new _ w3 _
        have hB3 := hBa.trans (hb3.mono hBa.size)
        have hB4 := hB3.alloc hB3.size (.cells #[.int .i64 z1, .int .i64 j1] 48)
        have c1 := (p0.below hb3 p0.lt).cell 1 (by simp)
        have c1a := ((p0.below hb3 p0.lt).alloc (.cells #[.int .i64 z1, .int .i64 j1] 48)).cell 1 (by simp)
        have hne3 := Nat.ne_of_lt (p0.below hb3 p0.lt).lt
        have hs3 := hb3.size
        rw [World.size_alloc] at hs3
        clear hb3 hrow hrowa hB hBa p0 y0 y1 y2 hB3
        go_wp2_with fail
        obtain ⟨F1, hF1⟩ : ∃ F1, w3.heap.size = F1 := ⟨_, rfl⟩
        obtain ⟨w4, hw4⟩ : ∃ w4, w3.alloc (.cells #[.int .i64 z1, .int .i64 j1] 48) = w4 := ⟨_, rfl⟩
        rw [hF1] at f3 hs3
        rw [hw4] at f3 hB4
        try rw [hF1]
        try rw [hw4]
        clear hF1 hw4 c1 c1a hne3
        refine (decode_any u hu100 _).mono ?_
        rintro e w5 ⟨rfl, hb5⟩
        rw [HD2.out]
        have f5 := (f3.below hb5 f3.lt).alloc (.cells #[.int .i64 z2, .int .i64 j2] 48)
        have hB5 := hB4.trans (hb5.mono hB4.size)
        have hB6 := hB5.alloc hB5.size (.cells #[.int .i64 z2, .int .i64 j2] 48)
        have c2 := f5.cell 0 (by simp)
        have c3 := (f3.below hb5 f3.lt).cell 0 (by simp)
        have hf5 := (f3.below hb5 f3.lt).lt
        have hne5 := Nat.ne_of_lt hf5
        clear hb5 hB4 f3 hB5
        go_wp2_with fail
        refine (HOR.out (w5.alloc (.cells #[.int .i64 z2, .int .i64 j2] 48)) _ (by simp)).mono ?_
        rintro e w' ⟨rfl, rfl⟩
        have hB7 := hB6.alloc hB6.size (.cells #[.int .i64 z1, .int .i64 z2] 28)
        clear c2 c3 f5 hB6
        go_wp2_with fail
        go_ret2
        rw [hres.out]
        exact ⟨by rw [HZ.out]; rfl, hB7⟩
    · have d1 : decide ((k : Int) < (L.length : Int)) = false := decide_eq_false (by omega)
      obtain rfl : k = L.length := by omega
      rw [mixU_all] at hrow
      have hres : Hid (R = .inr (L.map unP)) := Lib.hid (HALL.out (by have := hok.out; rwa [List.take_length] at this))
      go_wp2_with fail
      go_ret2
      rw [hres.out]
      exact ⟨⟨_, rfl, by rw [List.length_map]; exact hrow⟩, hB⟩
  · have HP : Hid (prsR q = .inl (chkN q)) := Lib.hid (by unfold prsR; rw [if_neg hc])
    have HR : Hid (decR q = .inl (chkN q)) := Lib.hid (by unfold decR; rw [if_neg hc])
    rw [HR.out]
    have HP := HP.out
    obtain ⟨m, hm⟩ : ∃ m, chkN q = m := ⟨_, rfl⟩
    rw [hm] at hc HP ⊢
    have HP := Lib.hid HP
    have e0 : ((m : Int) != 0) = true := by rw [bne_iff_ne]; omega
    have e1 : ((m : Int) == 0) = false := by rw [beq_eq_false_iff_ne]; omega
    clear hm hc HR
    go_enter Tryd.func22, Tryd.ntmps22
    go_wp2_with fail
    refine (HPR.out _).mono ?_
    rintro e w' ⟨hpost, hb⟩
    rw [HP.out] at hpost
    obtain rfl := hpost
    go_wp2_with fail
    go_ret2
    exact ⟨rfl, hb⟩
end Go.Proofs.YtbbphchhdppipaaDoor
