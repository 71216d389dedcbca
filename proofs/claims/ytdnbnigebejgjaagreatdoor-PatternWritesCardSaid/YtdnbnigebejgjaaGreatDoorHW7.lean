/-
  The reference's Text for any nodes.
  The reference's Atoms for any nodes.
-/
import Derived.Test.YtdnbnigebejgjaaGreatDoorHJW6
import Derived.Test.YtdnbnigebejgjaaGreatDoorHZ6
namespace Go.Proofs.YtdnbnigebejgjaaGreatDoor
open Go.RowKit Go.Shelf
set_option maxHeartbeats 4000000 in
set_option maxRecDepth 100000 in
theorem text19T_any (L : List ND) (hL : L.length < 100000) (v : Value) (bb en : Bool) (g : Int) (W : World) (h : NdsAt W v L) :
    Calls Tryz.prog 12 #[.agg #[v, .bool bb, .bool en, .int .i64 g]] W fun e w' => e = .returned (.tuple #[.string ⟨(txtR L bb en g).1.toArray⟩, .int .i64 (txtR L bb en g).2]) ∧ Below W.heap.size W w' := by
  obtain ⟨W1, hW1⟩ : ∃ W1, W.alloc (.cells #[v, .bool bb, .bool en, .int .i64 g] 25) = W1 := ⟨_, rfl⟩
  have hB1 : Below W.heap.size W W1 := by rw [← hW1]; exact (Below.refl _ W).alloc (Nat.le_refl _) _
  have s1 : CBlk 25 W1 W.heap.size [v, .bool bb, .bool en, .int .i64 g] := by rw [← hW1]; exact CBlk.new _ W _
  have hz1 : W1.heap.size = W.heap.size + 1 := by rw [← hW1]; simp
  have HC := Lib.hid (refCheck_any L (by omega) v bb en g W1 (h.below hB1 (Nat.le_refl _)))
  obtain ⟨t0, t1, t2, t3⟩ : W1.cell? ⟨W.heap.size, 0, none⟩ = _ ∧ W1.cell? ⟨W.heap.size, 1, none⟩ = _ ∧ W1.cell? ⟨W.heap.size, 2, none⟩ = _ ∧ W1.cell? ⟨W.heap.size, 3, none⟩ = _ := ⟨s1.cell 0 (by simp), s1.cell 1 (by simp), s1.cell 2 (by simp), s1.cell 3 (by simp)⟩
  obtain ⟨c, hc⟩ : ∃ c, chkR L g = c := ⟨_, rfl⟩
  rw [hc] at HC
  by_cases h0 : c = 0
  · subst h0
    have hR : txtR L bb en g = if 64 < (fullT L bb en).length then ([], 4) else (fullT L bb en, 0) := by unfold txtR; rw [if_pos hc]
    obtain ⟨b, off, cap, rfl, hb, hN⟩ := tree_open hc h
    obtain ⟨hl, ht, hn⟩ := chk_zero hc
    obtain ⟨f1, f2, f3⟩ := treeB_facts ht
    have hlen := nt_len L L.length 0 L.length _ f3
    have hTX := fun w h1 h2 => text19_any L hL b off cap bb en g L.length 0 L.length _ w f3 (by omega) h1 h2
    unfold fullT at hR
    obtain ⟨T, hT⟩ : ∃ T, ntT L L.length 0 = T := ⟨_, rfl⟩
    rw [hT] at hTX hR hlen
    have HTX := Lib.hid hTX
    have HR := Lib.hid hR
    have hTl : T.length ≤ 400000 := by omega
    have HN := Lib.hid hN
    have HB := Lib.hid hb
    clear hTX hR hT hN hb hl ht hn f1 f2 f3 hlen h hc
    go_enter Tryz.func12, Tryz.ntmps12
    go_wp2_with fail
    refine HC.out.mono ?_
    rintro e w2 ⟨rfl, hB2⟩
    have s2 := s1.below hB2 s1.lt
    have hBW := hB1.trans (hB2.mono (by omega))
    clear s1 hB1 hB2 t0 t1 t2 t3 HC
    obtain ⟨c0, c1, c2, c3⟩ : w2.cell? ⟨W.heap.size, 0, none⟩ = _ ∧ w2.cell? ⟨W.heap.size, 1, none⟩ = _ ∧ w2.cell? ⟨W.heap.size, 2, none⟩ = _ ∧ w2.cell? ⟨W.heap.size, 3, none⟩ = _ := ⟨s2.cell 0 (by simp), s2.cell 1 (by simp), s2.cell 2 (by simp), s2.cell 3 (by simp)⟩
    have HH := Lib.hid (HTX.out w2 (CellsIn.below HN.out hBW (Nat.le_refl _)) (Nat.lt_of_lt_of_le HB.out hBW.size))
    clear HTX HN HB
    go_wp2_with fail
    refine HH.out.mono ?_
    rintro e w3 ⟨rfl, hB3⟩
    have s3 := s2.below hB3 s2.lt
    have hBV := Lib.hid (hBW.trans (hB3.mono hBW.size))
    clear c0 c1 c2 c3 s2 hBW hB3 HH hz1
    obtain ⟨c0, c1, c2, c3⟩ : w3.cell? ⟨W.heap.size, 0, none⟩ = _ ∧ w3.cell? ⟨W.heap.size, 1, none⟩ = _ ∧ w3.cell? ⟨W.heap.size, 2, none⟩ = _ ∧ w3.cell? ⟨W.heap.size, 3, none⟩ = _ := ⟨s3.cell 0 (by simp), s3.cell 1 (by simp), s3.cell 2 (by simp), s3.cell 3 (by simp)⟩
    clear s3
    cases bb with
    | true =>
      cases en with
      | true =>
        obtain ⟨T1, hT1⟩ : ∃ x, [94] ++ T = x := ⟨_, rfl⟩
        have l1 : T1.length ≤ 400001 := by rw [← hT1]; simp; omega
        have k1 : ∀ w : World, (Op.stringOp .add ⟨#[94]⟩ ⟨T.toArray⟩).run Tryz.prog w = .ok (.string ⟨T1.toArray⟩) w := fun w => by rw [← hT1]; exact jstr_add [94] T (by simp; omega)
        obtain ⟨T2, hT2⟩ : ∃ x, T1 ++ [36] = x := ⟨_, rfl⟩
        have l2 : T2.length ≤ 400002 := by rw [← hT2]; simp; omega
        have k2 : ∀ w : World, (Op.stringOp .add ⟨T1.toArray⟩ ⟨#[36]⟩).run Tryz.prog w = .ok (.string ⟨T2.toArray⟩) w := fun w => by rw [← hT2]; exact jstr_add T1 [36] (by simp; omega)
        have hr := HR.out
        have hF : (if (true : Bool) = true then [94] else []) ++ T ++ (if (true : Bool) = true then [36] else []) = T2 := by
          rw [if_pos rfl, hT1]
          rw [if_pos rfl, hT2]
        rw [hF] at hr
        by_cases hq : 64 < T2.length
        · have d1 : decide ((64 : Int) < (T2.length : Int)) = true := decide_eq_true (by omega)
          have d2 : decide (64 < T2.length) = true := decide_eq_true hq
          have HR2 := Lib.hid (hr.trans (if_pos hq))
          clear hr hF hq HR
          go_wp2_with fail
          go_ret2
          exact ⟨by rw [HR2.out]; rfl, hBV.out⟩
        · have d1 : decide ((64 : Int) < (T2.length : Int)) = false := decide_eq_false (by omega)
          have d2 : decide (64 < T2.length) = false := decide_eq_false hq
          have HR2 := Lib.hid (hr.trans (if_neg hq))
          clear hr hF hq HR
          go_wp2_with fail
          go_ret2
          exact ⟨by rw [HR2.out]; rfl, hBV.out⟩
      | false =>
        obtain ⟨T1, hT1⟩ : ∃ x, [94] ++ T = x := ⟨_, rfl⟩
        have l1 : T1.length ≤ 400001 := by rw [← hT1]; simp; omega
        have k1 : ∀ w : World, (Op.stringOp .add ⟨#[94]⟩ ⟨T.toArray⟩).run Tryz.prog w = .ok (.string ⟨T1.toArray⟩) w := fun w => by rw [← hT1]; exact jstr_add [94] T (by simp; omega)
        have hr := HR.out
        have hF : (if (true : Bool) = true then [94] else []) ++ T ++ (if (false : Bool) = true then [36] else []) = T1 := by
          rw [if_pos rfl, hT1]
          rw [if_neg (by decide), List.append_nil]
        rw [hF] at hr
        by_cases hq : 64 < T1.length
        · have d1 : decide ((64 : Int) < (T1.length : Int)) = true := decide_eq_true (by omega)
          have d2 : decide (64 < T1.length) = true := decide_eq_true hq
          have HR2 := Lib.hid (hr.trans (if_pos hq))
          clear hr hF hq HR
          go_wp2_with fail
          go_ret2
          exact ⟨by rw [HR2.out]; rfl, hBV.out⟩
        · have d1 : decide ((64 : Int) < (T1.length : Int)) = false := decide_eq_false (by omega)
          have d2 : decide (64 < T1.length) = false := decide_eq_false hq
          have HR2 := Lib.hid (hr.trans (if_neg hq))
          clear hr hF hq HR
          go_wp2_with fail
          go_ret2
          exact ⟨by rw [HR2.out]; rfl, hBV.out⟩
    | false =>
      cases en with
      | true =>
        obtain ⟨T2, hT2⟩ : ∃ x, T ++ [36] = x := ⟨_, rfl⟩
        have l2 : T2.length ≤ 400002 := by rw [← hT2]; simp; omega
        have k2 : ∀ w : World, (Op.stringOp .add ⟨T.toArray⟩ ⟨#[36]⟩).run Tryz.prog w = .ok (.string ⟨T2.toArray⟩) w := fun w => by rw [← hT2]; exact jstr_add T [36] (by simp; omega)
        have hr := HR.out
        have hF : (if (false : Bool) = true then [94] else []) ++ T ++ (if (true : Bool) = true then [36] else []) = T2 := by
          rw [if_neg (by decide), List.nil_append]
          rw [if_pos rfl, hT2]
        rw [hF] at hr
        by_cases hq : 64 < T2.length
        · have d1 : decide ((64 : Int) < (T2.length : Int)) = true := decide_eq_true (by omega)
          have d2 : decide (64 < T2.length) = true := decide_eq_true hq
          have HR2 := Lib.hid (hr.trans (if_pos hq))
          clear hr hF hq HR
          go_wp2_with fail
          go_ret2
          exact ⟨by rw [HR2.out]; rfl, hBV.out⟩
        · have d1 : decide ((64 : Int) < (T2.length : Int)) = false := decide_eq_false (by omega)
          have d2 : decide (64 < T2.length) = false := decide_eq_false hq
          have HR2 := Lib.hid (hr.trans (if_neg hq))
          clear hr hF hq HR
          go_wp2_with fail
          go_ret2
          exact ⟨by rw [HR2.out]; rfl, hBV.out⟩
      | false =>
        have hr := HR.out
        have hF : (if (false : Bool) = true then [94] else []) ++ T ++ (if (false : Bool) = true then [36] else []) = T := by
          rw [if_neg (by decide), List.nil_append]
          rw [if_neg (by decide), List.append_nil]
        rw [hF] at hr
        by_cases hq : 64 < T.length
        · have d1 : decide ((64 : Int) < (T.length : Int)) = true := decide_eq_true (by omega)
          have d2 : decide (64 < T.length) = true := decide_eq_true hq
          have HR2 := Lib.hid (hr.trans (if_pos hq))
          clear hr hF hq HR
          go_wp2_with fail
          go_ret2
          exact ⟨by rw [HR2.out]; rfl, hBV.out⟩
        · have d1 : decide ((64 : Int) < (T.length : Int)) = false := decide_eq_false (by omega)
          have d2 : decide (64 < T.length) = false := decide_eq_false hq
          have HR2 := Lib.hid (hr.trans (if_neg hq))
          clear hr hF hq HR
          go_wp2_with fail
          go_ret2
          exact ⟨by rw [HR2.out]; rfl, hBV.out⟩
  · have HR : Hid (txtR L bb en g = ([], c)) := Lib.hid (by unfold txtR; rw [hc, if_neg h0])
    have a1 : (c == 0) = false := by simpa using h0
    have a2 : (c != 0) = true := by simpa using h0
    clear h0 hc
    go_enter Tryz.func12, Tryz.ntmps12
    go_wp2_with fail
    refine HC.out.mono ?_
    rintro e w2 ⟨rfl, hB2⟩
    go_wp2
    go_ret2
    exact ⟨by rw [HR.out]; rfl, hB1.trans (hB2.mono (by omega))⟩
end Go.Proofs.YtdnbnigebejgjaaGreatDoor
namespace Go.Proofs.YtdnbnigebejgjaaGreatDoor
open Go.RowKit Go.Shelf
/-- How many atoms there are. -/
def atmN (L : List ND) : Nat := L.countP fun n => n.kind == 1
/-- What Atoms says. -/
def atmR (L : List ND) (g : Int) : Int × Int := if chkR L g = 0 then ((atmN L : Int), 0) else (0, chkR L g)
set_option maxHeartbeats 4000000 in
set_option maxRecDepth 100000 in
theorem atoms19_any (L : List ND) (hL : L.length < 100000) (v : Value) (bb en : Bool) (g : Int) (W : World) (h : NdsAt W v L) :
    Calls Tryz.prog 16 #[.agg #[v, .bool bb, .bool en, .int .i64 g]] W fun e w' => e = .returned (.tuple #[.int .i64 (atmR L g).1, .int .i64 (atmR L g).2]) ∧ Below W.heap.size W w' := by
  obtain ⟨W1, hW1⟩ : ∃ W1, W.alloc (.cells #[v, .bool bb, .bool en, .int .i64 g] 25) = W1 := ⟨_, rfl⟩
  have hB1 : Below W.heap.size W W1 := by rw [← hW1]; exact (Below.refl _ W).alloc (Nat.le_refl _) _
  have s1 : CBlk 25 W1 W.heap.size [v, .bool bb, .bool en, .int .i64 g] := by rw [← hW1]; exact CBlk.new _ W _
  have hz1 : W1.heap.size = W.heap.size + 1 := by rw [← hW1]; simp
  have HC := Lib.hid (refCheck_any L (by omega) v bb en g W1 (h.below hB1 (Nat.le_refl _)))
  obtain ⟨t0, t1, t2, t3⟩ : W1.cell? ⟨W.heap.size, 0, none⟩ = _ ∧ W1.cell? ⟨W.heap.size, 1, none⟩ = _ ∧ W1.cell? ⟨W.heap.size, 2, none⟩ = _ ∧ W1.cell? ⟨W.heap.size, 3, none⟩ = _ := ⟨s1.cell 0 (by simp), s1.cell 1 (by simp), s1.cell 2 (by simp), s1.cell 3 (by simp)⟩
  obtain ⟨c, hc⟩ : ∃ c, chkR L g = c := ⟨_, rfl⟩
  rw [hc] at HC
  by_cases h0 : c = 0
  · subst h0
    have HR : Hid (atmR L g = ((atmN L : Int), 0)) := Lib.hid (by unfold atmR; rw [if_pos hc])
    obtain ⟨b, off, cap, rfl, hb, hN⟩ := tree_open hc h
    have HN := Lib.hid hN
    have HB := Lib.hid hb
    clear hN hb h hc
    go_enter Tryz.func16, Tryz.ntmps16
    go_wp2_with fail
    refine HC.out.mono ?_
    rintro e w2 ⟨rfl, hB2⟩
    have s2 := s1.below hB2 s1.lt
    have hBW := Lib.hid (hB1.trans (hB2.mono (by omega)))
    clear s1 hB1 hB2 t0 t1 t2 t3 HC hz1
    have c0 := s2.cell 0 (by simp)
    have hN2 := Lib.hid (CellsIn.below HN.out hBW.out (Nat.le_refl _) : NdsIn w2 (some ⟨b, off, none⟩) L)
    go_wp2_with fail
    go_loopw [5, 6] (fun nv iv wr => ∃ i : Nat, i ≤ L.length ∧ nv = .int .i64 (((L.take i).countP fun n => n.kind == 1 : Nat) : Int) ∧ iv = .int .i64 i ∧ wr = w2) (fun _ iv _ => L.length - (intOf iv).toNat)
    case atStart => exact ⟨0, Nat.zero_le _, rfl, rfl, rfl⟩
    case round =>
      obtain ⟨i, hi, rfl, rfl, rfl⟩ := hrel
      by_cases hil : i < L.length
      · have b1 : (i : Int) < (L.length : Int) := by omega
        have b2 : decide ((i : Int) < (L.length : Int)) = true := decide_eq_true b1
        have wi : IntKind.i64.wrap ((i : Int) + 1) = (i : Int) + 1 := jwrap (by omega) (by omega)
        obtain ⟨m0, _, _, _, _, _, _, _, _⟩ := ndV_cells hN2.out hil
        obtain ⟨n, hn⟩ : ∃ n, L[i] = n := ⟨_, rfl⟩
        rw [hn] at m0
        obtain ⟨q, hq⟩ : ∃ q, (L.take i).countP (fun n => n.kind == 1) = q := ⟨_, rfl⟩
        have hql : q ≤ i := by
          rw [← hq]
          refine Nat.le_trans List.countP_le_length ?_
          rw [List.length_take]
          omega
        have wq : IntKind.i64.wrap ((q : Int) + 1) = (q : Int) + 1 := jwrap (by omega) (by omega)
        have hst : (L.take (i + 1)).countP (fun n => n.kind == 1) = q + (if n.kind == 1 then 1 else 0) := by
          rw [List.take_add_one, List.getElem?_eq_getElem hil, hn, List.countP_append, hq]
          congr 1
          cases hh : (n.kind == 1) <;> simp [hh]
        have HST := Lib.hid hst
        rw [hq]
        clear hst hq hn
        by_cases h1 : n.kind = 1
        · have e1 : (n.kind == 1) = true := by simpa using h1
          have HS2 : Hid ((((L.take (i + 1)).countP fun n => n.kind == 1 : Nat) : Int) = (q : Int) + 1) := Lib.hid (by rw [HST.out, e1]; simp)
          clear h1
          go_wp2_with fail
          go_roundw
          case rel => exact ⟨i + 1, by omega, by rw [HS2.out], by go_num, trivial⟩
          case measure => simp [intOf]; omega
        · have e1 : (n.kind == 1) = false := by simpa using h1
          have HS2 : Hid ((((L.take (i + 1)).countP fun n => n.kind == 1 : Nat) : Int) = (q : Int)) := Lib.hid (by rw [HST.out, e1]; simp)
          clear h1
          go_wp2_with fail
          go_roundw
          case rel => exact ⟨i + 1, by omega, by rw [HS2.out], by go_num, trivial⟩
          case measure => simp [intOf]; omega
      · obtain rfl : i = L.length := by omega
        have b2 : decide ((L.length : Int) < (L.length : Int)) = false := decide_eq_false (by omega)
        have HR2 : Hid (atmR L g = ((((L.take L.length).countP fun n => n.kind == 1 : Nat) : Int), 0)) := Lib.hid (by rw [HR.out, List.take_length]; rfl)
        obtain ⟨q, hq⟩ : ∃ q, (L.take L.length).countP (fun n => n.kind == 1) = q := ⟨_, rfl⟩
        rw [hq] at HR2 ⊢
        clear hq
        go_wp2_with fail
        go_ret2
        exact ⟨by rw [HR2.out]; rfl, hBW.out⟩
  · have HR : Hid (atmR L g = (0, c)) := Lib.hid (by unfold atmR; rw [hc, if_neg h0])
    have a1 : (c == 0) = false := by simpa using h0
    have a2 : (c != 0) = true := by simpa using h0
    clear h0 hc
    go_enter Tryz.func16, Tryz.ntmps16
    go_wp2_with fail
    refine HC.out.mono ?_
    rintro e w2 ⟨rfl, hB2⟩
    go_wp2
    go_ret2
    exact ⟨by rw [HR.out]; rfl, hB1.trans (hB2.mono (by omega))⟩
end Go.Proofs.YtdnbnigebejgjaaGreatDoor
