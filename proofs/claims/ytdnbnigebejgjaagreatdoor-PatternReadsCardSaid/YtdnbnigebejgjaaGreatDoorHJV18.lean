/-
  The reference's Parse for every text: its tree, or its fault.
-/
import Derived.Test.YtdnbnigebejgjaaGreatDoorHV16
namespace Go.Proofs.YtdnbnigebejgjaaGreatDoor
open Go.RowKit
theorem RF.begin {w : World} {B : Nat} {t : List UInt8} {s : RS} {x2 x3 x4 x5 : Value} (h : RF w B t s x2 x3 x4 x5) (v : Value) : RF (w.setCell ⟨B, 3, none⟩ v) B t s x2 v x4 x5 := ⟨h.1, h.2.1, CBlk.set h.2.2 3 v⟩
theorem RF.ends {w : World} {B : Nat} {t : List UInt8} {s : RS} {x2 x3 x4 x5 : Value} (h : RF w B t s x2 x3 x4 x5) (v : Value) : RF (w.setCell ⟨B, 4, none⟩ v) B t s x2 x3 v x5 := ⟨h.1, h.2.1, CBlk.set h.2.2 4 v⟩
theorem end_no {t : List UInt8} {r : RS} (h : endB t r = false) : lastR t r = if restR t r = [] then r else failR r 3 r.k := by
  have e : endR t r = r := by
    unfold endR
    rw [if_neg (by rw [h]; simp)]
  unfold lastR
  rw [e]
theorem par_eq {t : List UInt8} (ht : t.length ≤ 64) : parP t = (if (lastR t (patS t).r).e = 0 then (⟨(patS t).L, takeB t ⟨0, 0, 0⟩ [94], endB t (patS t).r, ((patS t).g : Int)⟩, 0, 0) else (.none, (lastR t (patS t).r).e, (lastR t (patS t).r).a)) := by
  unfold parP
  rw [if_neg (by omega)]
theorem par_fault {t : List UInt8} {M : PS} (ht : t.length ≤ 64) (hM : SimP t M (patS t)) (he : M.r.e ≠ 0) : parP t = (.none, M.r.e, M.r.a) := by
  have hb := hM.bad he
  rw [par_eq ht]
  obtain ⟨Q, hQ⟩ : ∃ Q, patS t = Q := ⟨_, rfl⟩
  rw [hQ] at hb ⊢
  by_cases hq : Q.r.e = 0
  · cases hd : doomB t Q.r with
    | false =>
      rw [eff_ok hq hd] at hb
      injection hb with hb _
      exact absurd hb he
    | true =>
      rw [eff_doom hq hd] at hb
      injection hb with hb1 hb2
      have hne : restR t Q.r ≠ [] ∧ restR t Q.r ≠ [36] := by
        unfold doomB at hd
        constructor
        · intro hr; rw [hr] at hd; cases hd
        · intro hr; rw [hr] at hd; simp at hd
      have hen : endB t Q.r = false := by unfold endB; exact decide_eq_false hne.2
      have hf : failR Q.r 3 Q.r.k = ⟨Q.r.k, 3, Q.r.k⟩ := by unfold failR; rw [if_pos hq]
      rw [end_no hen, if_neg hne.1, hf, if_neg (by simp), hb1, hb2]
  · rw [eff_bad hq] at hb
    injection hb with hb1 hb2
    have hr : restR t Q.r = [] := by unfold restR; rw [if_neg hq]
    have hen : endB t Q.r = false := by unfold endB; rw [hr]; rfl
    rw [end_no hen, if_pos hr, if_neg hq, hb1, hb2]
theorem par_end {t : List UInt8} (ht : t.length ≤ 64) (he : (patS t).r.e = 0) (hd : doomB t (patS t).r = false) (h36 : isB t (patS t).r.k 36 = true) : parP t = (⟨(patS t).L, takeB t ⟨0, 0, 0⟩ [94], true, ((patS t).g : Int)⟩, 0, 0) ∧ (patS t).r.k + 1 = t.length := by
  rw [par_eq ht]
  obtain ⟨Q, hQ⟩ : ∃ Q, patS t = Q := ⟨_, rfl⟩
  rw [hQ] at he hd h36 ⊢
  have hk : Q.r.k < t.length := by
    by_cases hk : Q.r.k < t.length
    · exact hk
    · rw [isB_out _ (by omega)] at h36; cases h36
  have hr := hd_at he hk
  have hc : t[Q.r.k] = 36 := by
    rw [isB_in _ hk] at h36
    simpa using h36
  have hz : t.drop (Q.r.k + 1) = [] := by
    unfold doomB at hd
    rw [hr, hc] at hd
    cases hdz : t.drop (Q.r.k + 1) with
    | nil => rfl
    | cons x z => rw [hdz] at hd; simp [behindL] at hd
  rw [hc, hz] at hr
  have hen : endB t Q.r = true := by unfold endB; rw [hr]; rfl
  have h36' : takeB t Q.r [36] = true := by rw [← isB_take he]; exact h36
  have htr : takeR t Q.r [36] = ⟨Q.r.k + 1, Q.r.e, Q.r.a⟩ := by unfold takeR; rw [if_pos h36']; rfl
  have hlast : lastR t Q.r = ⟨Q.r.k + 1, Q.r.e, Q.r.a⟩ := by
    unfold lastR endR
    rw [if_pos hen, htr, if_pos (by unfold restR; rw [if_pos he]; exact hz)]
  have hlen : Q.r.k + 1 = t.length := by
    have := List.drop_eq_nil_iff.1 hz
    omega
  rw [hlast, if_pos he, hen]
  exact ⟨rfl, hlen⟩
theorem no_end {t : List UInt8} {r : RS} (he : r.e = 0) (h36 : isB t r.k 36 = false) : endB t r = false := by
  unfold endB
  refine decide_eq_false fun hr => ?_
  have := take_hd hr 36
  rw [← isB_take he, h36] at this
  cases this
theorem par_more {t : List UInt8} (ht : t.length ≤ 64) (he : (patS t).r.e = 0) (h36 : isB t (patS t).r.k 36 = false) (hk : (patS t).r.k < t.length) : parP t = (.none, 3, (patS t).r.k) := by
  rw [par_eq ht, end_no (no_end he h36)]
  have hr := hd_at he hk
  have hf : failR (patS t).r 3 (patS t).r.k = ⟨(patS t).r.k, 3, (patS t).r.k⟩ := by unfold failR; rw [if_pos he]
  have e1 : (if restR t (patS t).r = [] then (patS t).r else failR (patS t).r 3 (patS t).r.k) = failR (patS t).r 3 (patS t).r.k := if_neg (fun h => by rw [hr] at h; cases h)
  rw [e1, hf, if_neg (by simp)]
theorem par_done {t : List UInt8} (ht : t.length ≤ 64) (he : (patS t).r.e = 0) (h36 : isB t (patS t).r.k 36 = false) (hk : ¬ (patS t).r.k < t.length) : parP t = (⟨(patS t).L, takeB t ⟨0, 0, 0⟩ [94], false, ((patS t).g : Int)⟩, 0, 0) := by
  rw [par_eq ht, end_no (no_end he h36), no_end he h36]
  have hr : restR t (patS t).r = [] := by unfold restR; rw [if_pos he]; exact List.drop_eq_nil_of_le (by omega)
  rw [if_pos hr, if_pos he]
/-- What Parse comes to. -/
def RP (l : List UInt8) (W : World) (e : Ending) (w' : World) : Prop := ∃ v, e = .returned (.tuple #[treeV v (parP l).1, .agg #[.int .i64 ((parP l).2.1 : Int), .int .i64 ((parP l).2.2 : Int)]]) ∧ NdsAt w' v (parP l).1.L ∧ Below W.heap.size W w'
theorem RP.of {l : List UInt8} {W : World} {e : Ending} {w' : World} (h : ∃ v, e = .returned (.tuple #[treeV v (parP l).1, .agg #[.int .i64 ((parP l).2.1 : Int), .int .i64 ((parP l).2.2 : Int)]]) ∧ NdsAt w' v (parP l).1.L ∧ Below W.heap.size W w') : RP l W e w' := h
set_option maxHeartbeats 16000000 in
set_option maxRecDepth 100000 in
theorem rParse_any (l : List UInt8) (W : World) : Calls Tryz.prog 8 #[.string ⟨l.toArray⟩] W fun e w' => RP l W e w' := by
  by_cases hl : 64 < l.length
  · have HP : Hid (parP l = (.none, 4, 64)) := Lib.hid (if_pos hl)
    have a1 : decide ((64 : Int) < (l.length : Int)) = true := decide_eq_true (by omega)
    have a2 : decide (64 < l.length) = true := decide_eq_true hl
    clear hl
    go_enter Tryz.func8, Tryz.ntmps8
    go_wp2_with fail
    have h1 : CBlk 25 ((W.alloc (.cells #[.slice none 0 0, .bool false, .bool false, .int .i64 0] 25)).alloc (.cells #[.int .i64 4, .int .i64 64] 28)) W.heap.size [.slice none 0 0, .bool false, .bool false, .int .i64 0] := (CBlk.new _ W _).alloc _
    have h2 : CBlk 28 ((W.alloc (.cells #[.slice none 0 0, .bool false, .bool false, .int .i64 0] 25)).alloc (.cells #[.int .i64 4, .int .i64 64] 28)) (W.heap.size + 1) [.int .i64 4, .int .i64 64] := by
      have := CBlk.new 28 (W.alloc (.cells #[.slice none 0 0, .bool false, .bool false, .int .i64 0] 25)) [.int .i64 4, .int .i64 64]
      rwa [World.size_alloc] at this
    refine bodyPost_ret (tree_results h1 h2 rfl _ rfl rfl) rfl (RP.of ⟨.slice none 0 0, ?_, ?_, ((Below.refl _ W).alloc (Nat.le_refl _) _).alloc (by simp) _⟩)
    · rw [HP.out]; rfl
    · rw [HP.out]; exact NdsAt.nil _
  · have a1 : decide ((64 : Int) < (l.length : Int)) = false := decide_eq_false (by omega)
    have a2 : decide (64 < l.length) = false := decide_eq_false hl
    have hlen : l.length ≤ 64 := by omega
    obtain ⟨q, hq⟩ : ∃ q, takeB l ⟨0, 0, 0⟩ [94] = q := ⟨_, rfl⟩
    obtain ⟨s0, hs0⟩ : ∃ s0, takeR l ⟨0, 0, 0⟩ [94] = s0 := ⟨_, rfl⟩
    have hi94 : isB l 0 94 = q := by rw [← hq]; exact isB_take (s := ⟨0, 0, 0⟩) rfl 94
    have hs0e : s0.e = 0 := by rw [← hs0]; unfold takeR; split <;> rfl
    have hk1 : q = true → s0 = ⟨1, 0, 0⟩ := fun e => by rw [← hs0]; unfold takeR; rw [if_pos (by rw [hq]; exact e)]; rfl
    have hk0 : q = false → s0 = ⟨0, 0, 0⟩ := fun e => by rw [← hs0]; unfold takeR; rw [if_neg (by rw [hq, e]; simp)]
    obtain ⟨Q, hQ⟩ : ∃ Q, patS l = Q := ⟨_, rfl⟩
    have hcho : (choP l (pcP l l.length) ⟨s0, [], 0⟩).2 = Q := by rw [← hQ, ← hs0]; rfl
    have hpf := fun M => par_fault (t := l) (M := M) hlen
    have hpe := par_end (t := l) hlen
    have hpm := par_more (t := l) hlen
    have hpd := par_done (t := l) hlen
    rw [hQ, hq] at hpe hpd
    rw [hQ] at hpf hpm
    have HPF := Lib.hid hpf
    have HPE := Lib.hid hpe
    have HPM := Lib.hid hpm
    have HPD := Lib.hid hpd
    have HK1 := Lib.hid hk1
    have HK0 := Lib.hid hk0
    have hvl : vl l s0 ≤ l.length := by rw [← hs0]; exact Nat.le_trans (vl_take_le _ _ _) (by rw [vl_at rfl]; exact Nat.sub_le _ _)
    have HCHO := Lib.hid fun B N W' v x3 x4 (h : PR W' B N l ⟨s0, [], 0⟩ v x3 x4) => rCho_any l l.length (pcP l l.length) B N x3 x4 (pcP_good l l.length) (pcP_frm l l.length) (rPiece_any l B N x3 x4 l.length) ⟨s0, [], 0⟩ v W' h hs0e hvl (by simp only [pot, List.length_nil]; omega) (by simp only [gp]; omega)
    rw [hcho] at HCHO
    clear hpf hpe hpm hpd hk1 hk0 hq hs0 hQ hcho hl hvl
    have b1 : CBlk 25 (((W.alloc (.cells #[.slice none 0 0, .bool false, .bool false, .int .i64 0] 25)).alloc (.cells #[.int .i64 0, .int .i64 0] 28)).alloc (.cells #[.string ⟨l.toArray⟩, .int .i64 0, .slice none 0 0, .bool false, .bool false, .int .i64 0, .int .i64 0, .int .i64 0] 67)) W.heap.size [.slice none 0 0, .bool false, .bool false, .int .i64 0] := ((CBlk.new _ W _).alloc _).alloc _
    have b2 : CBlk 28 (((W.alloc (.cells #[.slice none 0 0, .bool false, .bool false, .int .i64 0] 25)).alloc (.cells #[.int .i64 0, .int .i64 0] 28)).alloc (.cells #[.string ⟨l.toArray⟩, .int .i64 0, .slice none 0 0, .bool false, .bool false, .int .i64 0, .int .i64 0, .int .i64 0] 67)) (W.heap.size + 1) [.int .i64 0, .int .i64 0] := by
      have := (CBlk.new 28 (W.alloc (.cells #[.slice none 0 0, .bool false, .bool false, .int .i64 0] 25)) [.int .i64 0, .int .i64 0]).alloc (.cells #[.string ⟨l.toArray⟩, .int .i64 0, .slice none 0 0, .bool false, .bool false, .int .i64 0, .int .i64 0, .int .i64 0] 67)
      rwa [World.size_alloc] at this
    have b3 : CBlk 67 (((W.alloc (.cells #[.slice none 0 0, .bool false, .bool false, .int .i64 0] 25)).alloc (.cells #[.int .i64 0, .int .i64 0] 28)).alloc (.cells #[.string ⟨l.toArray⟩, .int .i64 0, .slice none 0 0, .bool false, .bool false, .int .i64 0, .int .i64 0, .int .i64 0] 67)) (W.heap.size + 1 + 1) [.string ⟨l.toArray⟩, .int .i64 0, .slice none 0 0, .bool false, .bool false, .int .i64 0, .int .i64 0, .int .i64 0] := by
      have := CBlk.new 67 ((W.alloc (.cells #[.slice none 0 0, .bool false, .bool false, .int .i64 0] 25)).alloc (.cells #[.int .i64 0, .int .i64 0] 28)) [.string ⟨l.toArray⟩, .int .i64 0, .slice none 0 0, .bool false, .bool false, .int .i64 0, .int .i64 0, .int .i64 0]
      rwa [World.size_alloc, World.size_alloc] at this
    have hX : Below W.heap.size W (((W.alloc (.cells #[.slice none 0 0, .bool false, .bool false, .int .i64 0] 25)).alloc (.cells #[.int .i64 0, .int .i64 0] 28)).alloc (.cells #[.string ⟨l.toArray⟩, .int .i64 0, .slice none 0 0, .bool false, .bool false, .int .i64 0, .int .i64 0, .int .i64 0] 67)) :=
      (((Below.refl _ W).alloc (Nat.le_refl _) _).alloc (by simp) _).alloc (by simp; omega) _
    go_enter Tryz.func8, Tryz.ntmps8
    go_upto_region 4 with fail
    generalize ((W.alloc (.cells #[.slice none 0 0, .bool false, .bool false, .int .i64 0] 25)).alloc (.cells #[.int .i64 0, .int .i64 0] 28)).alloc (.cells #[.string ⟨l.toArray⟩, .int .i64 0, .slice none 0 0, .bool false, .bool false, .int .i64 0, .int .i64 0, .int .i64 0] 67) = X at b1 b2 b3 hX ⊢
    have rd1 : RF X (W.heap.size + 1 + 1) l ⟨0, 0, 0⟩ (.slice none 0 0) (.bool false) (.bool false) (.int .i64 ((0 : Nat) : Int)) := ⟨Nat.zero_le _, by omega, b3⟩
    have m1 : PR X (W.heap.size + 1 + 1) W.heap.size l ⟨⟨0, 0, 0⟩, [], 0⟩ (.slice none 0 0) (.bool false) (.bool false) := ⟨rd1, World.ownsRow_nil _ _ _ _, by omega⟩
    have HIS := Lib.hid (rIs_at l 0 94 94 rfl q hi94 X (W.heap.size + 1 + 1) 0 0 _ _ _ _ rd1)
    clear rd1 b3 hi94
    go_wp2_with fail
    refine HIS.out.mono ?_
    rintro e w1 ⟨rfl, n1, hw1⟩
    have m2 : PR w1 (W.heap.size + 1 + 1) W.heap.size l ⟨⟨0, 0, 0⟩, [], 0⟩ (.slice none 0 0) (.bool false) (.bool false) := by rw [hw1]; exact m1.drewN n1
    have c1' : CBlk 25 w1 W.heap.size [.slice none 0 0, .bool false, .bool false, .int .i64 0] := by rw [hw1]; exact b1
    have c2' : CBlk 28 w1 (W.heap.size + 1) [.int .i64 0, .int .i64 0] := by rw [hw1]; exact b2
    have hB1 : Below W.heap.size W w1 := by rw [hw1]; exact hX.trans ⟨rfl, rfl, rfl, Nat.le_refl _, fun _ _ => rfl⟩
    clear hw1 m1 b1 b2 hX HIS
    go_upto_if 14 with (fail)
    go_cut [14] (fun b wx => b = .bool q ∧ PR wx (W.heap.size + 1 + 1) W.heap.size l ⟨s0, [], 0⟩ (.slice none 0 0) (.bool q) (.bool false) ∧ CBlk 25 wx W.heap.size [.slice none 0 0, .bool false, .bool false, .int .i64 0] ∧ CBlk 28 wx (W.heap.size + 1) [.int .i64 0, .int .i64 0] ∧ Below W.heap.size W wx)
    case first =>
      cases q with
      | true =>
        obtain rfl := HK1.out rfl
        obtain ⟨c0, c1, c6, c7⟩ := m2.rd.cells
        obtain ⟨d2, d3, d4, d5⟩ := m2.rd.cells2
        have f1 := m2.rd.free 1
        have f3 := m2.rd.free 3
        dsimp only at c1
        have m3 := (m2.rd.begin (.bool true)).step (Nat.zero_le _)
        go_wp2_with fail
        go_meet
        refine ⟨rfl, ⟨m3, World.ownsRow_nil _ _ _ _, by omega⟩, (c1'.other _ (by show W.heap.size + 1 + 1 ≠ _; omega) _).other _ (by show W.heap.size + 1 + 1 ≠ _; omega) _, (c2'.other _ (by show W.heap.size + 1 + 1 ≠ _; omega) _).other _ (by show W.heap.size + 1 + 1 ≠ _; omega) _, (hB1.setCell (by show W.heap.size ≤ W.heap.size + 1 + 1; omega) _).setCell (by show W.heap.size ≤ W.heap.size + 1 + 1; omega) _⟩
      | false =>
        obtain rfl := HK0.out rfl
        go_wp2_with fail
        go_meet
        exact ⟨rfl, m2, c1', c2', hB1⟩
    case rest =>
    obtain ⟨rfl, m3, b1, b2, hB3⟩ := hcut
    rename World => w3
    clear m2 c1' c2' hB1 HK1 HK0
    go_wp2_with fail
    refine (HCHO.out _ _ _ _ _ _ m3).mono ?_
    rintro e w4 ⟨rfl, M, v4, m4, p4, hsim, hj⟩
    have b1 := p4.kept b1 (by omega) (by simp [Value.ownBlock])
    have b2 := p4.kept b2 (by omega) (by simp [Value.ownBlock])
    have hB4 : Below W.heap.size W w4 := hB3.trans (p4.below (by omega) (by simp [Value.ownBlock]) hB3.size)
    clear m3 p4 hB3 HCHO hj
    by_cases he : M.r.e = 0
    · obtain ⟨hMQ, hqe, hqd⟩ := hsim.ok he
      rw [hMQ] at m4
      clear hMQ he hsim HPF
      have HOK := Lib.hid fun W' h => rok_q l Q.r v4 (.bool q) (.bool false) (.int .i64 (Q.g : Int)) true (decide_eq_true hqe) W' (W.heap.size + 1 + 1) h
      obtain ⟨q36, hq36⟩ : ∃ b, isB l Q.r.k 36 = b := ⟨_, rfl⟩
      have H36 := Lib.hid fun W' h => rIs_at l Q.r.k 36 36 rfl q36 hq36 W' (W.heap.size + 1 + 1) Q.r.e Q.r.a v4 (.bool q) (.bool false) (.int .i64 (Q.g : Int)) h
      cases q36 with
      | true =>
        obtain ⟨hpar, hk⟩ := HPE.out hqe hqd hq36
        have HQ := Lib.hid hpar
        have ww : IntKind.i64.wrap ((Q.r.k : Int) + 1) = (Q.r.k : Int) + 1 := jwrap (by omega) (by omega)
        have HOK2 := Lib.hid fun W' h => rok_q l ⟨Q.r.k + 1, Q.r.e, Q.r.a⟩ v4 (.bool q) (.bool true) (.int .i64 (Q.g : Int)) true (decide_eq_true hqe) W' (W.heap.size + 1 + 1) h
        have HKE := Lib.hid hk
        clear hpar HPE HPM HPD hq36 hqd hk
        go_wp2_with fail
        refine (HOK.out _ m4.rd).mono ?_
        rintro e w5 ⟨rfl, hw5⟩
        rw [hw5]
        clear hw5
        go_wp2_with fail
        refine (H36.out _ m4.rd).mono ?_
        rintro e w6 ⟨rfl, n6, hw6⟩
        have m6 : PR w6 (W.heap.size + 1 + 1) W.heap.size l Q v4 (.bool q) (.bool false) := by rw [hw6]; exact m4.drewN n6
        have b1 : CBlk 25 w6 W.heap.size [.slice none 0 0, .bool false, .bool false, .int .i64 0] := by rw [hw6]; exact b1
        have b2 : CBlk 28 w6 (W.heap.size + 1) [.int .i64 0, .int .i64 0] := by rw [hw6]; exact b2
        have hB6 : Below W.heap.size W w6 := by rw [hw6]; exact hB4.trans ⟨rfl, rfl, rfl, Nat.le_refl _, fun _ _ => rfl⟩
        clear hw6 m4 hB4
        obtain ⟨c0, c1, c6, c7⟩ := m6.rd.cells
        obtain ⟨d2, d3, d4, d5⟩ := m6.rd.cells2
        have f1 := m6.rd.free 1
        have f4 := m6.rd.free 4
        go_upto_region 11 with fail
        have m7 : PR ((w6.setCell ⟨W.heap.size + 1 + 1, 4, none⟩ (.bool true)).setCell ⟨W.heap.size + 1 + 1, 1, none⟩ (.int .i64 ((Q.r.k : Int) + 1))) (W.heap.size + 1 + 1) W.heap.size l ⟨⟨Q.r.k + 1, Q.r.e, Q.r.a⟩, Q.L, Q.g⟩ v4 (.bool q) (.bool true) :=
          ⟨(m6.rd.ends (.bool true)).step (by have := HKE.out; omega), m6.row.kept (jgtrans (jgset w6 _ 4 _) (jgset _ _ 1 _)) (.inr (fun e => m6.ne e.symm)), m6.hi⟩
        have b17 := (b1.other ⟨W.heap.size + 1 + 1, 4, none⟩ (by show W.heap.size + 1 + 1 ≠ _; omega) (.bool true)).other ⟨W.heap.size + 1 + 1, 1, none⟩ (by show W.heap.size + 1 + 1 ≠ _; omega) (.int .i64 ((Q.r.k : Int) + 1))
        have b27 := (b2.other ⟨W.heap.size + 1 + 1, 4, none⟩ (by show W.heap.size + 1 + 1 ≠ _; omega) (.bool true)).other ⟨W.heap.size + 1 + 1, 1, none⟩ (by show W.heap.size + 1 + 1 ≠ _; omega) (.int .i64 ((Q.r.k : Int) + 1))
        have hB7 := (hB6.setCell (p := ⟨W.heap.size + 1 + 1, 4, none⟩) (by show W.heap.size ≤ W.heap.size + 1 + 1; omega) (.bool true)).setCell (p := ⟨W.heap.size + 1 + 1, 1, none⟩) (by show W.heap.size ≤ W.heap.size + 1 + 1; omega) (.int .i64 ((Q.r.k : Int) + 1))
        generalize (w6.setCell ⟨W.heap.size + 1 + 1, 4, none⟩ (.bool true)).setCell ⟨W.heap.size + 1 + 1, 1, none⟩ (.int .i64 ((Q.r.k : Int) + 1)) = w7 at m7 b17 b27 hB7 ⊢
        clear c0 c1 c6 c7 d2 d3 d4 d5 f1 f4 m6 b1 b2 hB6 ww
        obtain ⟨c0, c1, c6, c7⟩ := m7.rd.cells
        have c1 : w7.cell? ⟨W.heap.size + 1 + 1, 1, none⟩ = some (.int .i64 ((Q.r.k : Int) + 1)) := c1
        have e1 : decide ((Q.r.k : Int) + 1 < (l.length : Int)) = false := decide_eq_false (by have := HKE.out; omega)
        have e2 : decide (Q.r.k + 1 < l.length) = false := decide_eq_false (by have := HKE.out; omega)
        go_wp2_with fail
        refine (HOK2.out _ m7.rd).mono ?_
        rintro e w8 ⟨rfl, hw8⟩
        rw [hw8]
        clear hw8
        go_wp2_with fail
        refine (HOK2.out _ m7.rd).mono ?_
        rintro e w8 ⟨rfl, hw8⟩
        rw [hw8]
        clear hw8
        clear c0 c1 c6 c7 e1 e2
        obtain ⟨cp, cc, rfl⟩ := own_slice m7.row
        obtain ⟨k2, k3, k4, k5⟩ := m7.rd.cells2
        have t0 := b17.cell 0 (by simp)
        have t1 := b17.cell 1 (by simp)
        have t2 := b17.cell 2 (by simp)
        have t3 := b17.cell 3 (by simp)
        have u0 := b27.cell 0 (by simp)
        have u1 := b27.cell 1 (by simp)
        simp only [List.getElem_cons_succ, List.getElem_cons_zero] at t0 t1 t2 t3 u0 u1
        have tf0 := b17.free 0
        have tf1 := b17.free 1
        have tf2 := b17.free 2
        have tf3 := b17.free 3
        have uf0 := b27.free 0
        have uf1 := b27.free 1
        clear HOK H36 HOK2
        go_wp2_with fail
        have c3 : CBlk 25 ((((((w7.setCell ⟨W.heap.size, 0, none⟩ (.slice cp Q.L.length cc)).setCell ⟨W.heap.size, 1, none⟩ (.bool q)).setCell ⟨W.heap.size, 2, none⟩ (.bool true)).setCell ⟨W.heap.size, 3, none⟩ (.int .i64 (Q.g : Int))).setCell ⟨W.heap.size + 1, 0, none⟩ (.int .i64 0)).setCell ⟨W.heap.size + 1, 1, none⟩ (.int .i64 0)) W.heap.size [.slice cp Q.L.length cc, .bool q, .bool true, .int .i64 (Q.g : Int)] :=
          (((((b17.set 0 (.slice cp Q.L.length cc)).set 1 (.bool q)).set 2 (.bool true)).set 3 (.int .i64 (Q.g : Int))).other ⟨W.heap.size + 1, 0, none⟩ (by show W.heap.size + 1 ≠ _; omega) _).other ⟨W.heap.size + 1, 1, none⟩ (by show W.heap.size + 1 ≠ _; omega) _
        have c4 : CBlk 28 ((((((w7.setCell ⟨W.heap.size, 0, none⟩ (.slice cp Q.L.length cc)).setCell ⟨W.heap.size, 1, none⟩ (.bool q)).setCell ⟨W.heap.size, 2, none⟩ (.bool true)).setCell ⟨W.heap.size, 3, none⟩ (.int .i64 (Q.g : Int))).setCell ⟨W.heap.size + 1, 0, none⟩ (.int .i64 0)).setCell ⟨W.heap.size + 1, 1, none⟩ (.int .i64 0)) (W.heap.size + 1) [.int .i64 0, .int .i64 0] :=
          (((((b27.other ⟨W.heap.size, 0, none⟩ (by show W.heap.size ≠ _; omega) _).other ⟨W.heap.size, 1, none⟩ (by show W.heap.size ≠ _; omega) _).other ⟨W.heap.size, 2, none⟩ (by show W.heap.size ≠ _; omega) _).other ⟨W.heap.size, 3, none⟩ (by show W.heap.size ≠ _; omega) _).set 0 (.int .i64 0)).set 1 (.int .i64 0)
        refine bodyPost_ret (tree_results c3 c4 rfl _ rfl rfl) rfl (RP.of ⟨.slice cp Q.L.length cc, ?_, ?_, ?_⟩)
        · rw [HQ.out]; rfl
        · rw [HQ.out]
          have hne1 : (Value.slice cp Q.L.length cc).ownBlock ≠ some W.heap.size := fun e => CBlk.not_row b17 (by decide) m7.row e.symm
          have hne2 : (Value.slice cp Q.L.length cc).ownBlock ≠ some (W.heap.size + 1) := fun e => CBlk.not_row b27 (by decide) m7.row e.symm
          exact nds_of_own (ownsRow_setCell_other (ownsRow_setCell_other (ownsRow_setCell_other (ownsRow_setCell_other (ownsRow_setCell_other (ownsRow_setCell_other m7.row hne1 _) hne1 _) hne1 _) hne1 _) hne2 _) hne2 _)
        · exact (((((hB7.setCell (p := ⟨W.heap.size, 0, none⟩) (Nat.le_refl _) _).setCell (p := ⟨W.heap.size, 1, none⟩) (Nat.le_refl _) _).setCell (p := ⟨W.heap.size, 2, none⟩) (Nat.le_refl _) _).setCell (p := ⟨W.heap.size, 3, none⟩) (Nat.le_refl _) _).setCell (p := ⟨W.heap.size + 1, 0, none⟩) (Nat.le_succ _) _).setCell (p := ⟨W.heap.size + 1, 1, none⟩) (Nat.le_succ _) _
      | false =>
        by_cases hk : Q.r.k < l.length
        · have hpar := HPM.out hqe hq36 hk
          obtain ⟨⟨kf, ef, af⟩, hF⟩ : ∃ s, failR Q.r 3 Q.r.k = s := ⟨_, rfl⟩
          have hFe : ef = 3 ∧ af = Q.r.k := by
            unfold failR at hF
            rw [if_pos hqe] at hF
            injection hF with h1 h2 h3
            exact ⟨h2.symm, h3.symm⟩
          rw [show (3 : Nat) = ef from hFe.1.symm, show Q.r.k = af from hFe.2.symm] at hpar
          have HQ := Lib.hid hpar
          have HW := Lib.hid fun W' h => rWrong_any l Q.r v4 (.bool q) (.bool false) (.int .i64 (Q.g : Int)) 3 Q.r.k W' (W.heap.size + 1 + 1) h
          rw [hF] at HW
          have HOK2 := Lib.hid fun W' h => rok_q l ⟨kf, ef, af⟩ v4 (.bool q) (.bool false) (.int .i64 (Q.g : Int)) false (decide_eq_false (by dsimp only; rw [hFe.1]; simp)) W' (W.heap.size + 1 + 1) h
          have e1 : decide ((Q.r.k : Int) < (l.length : Int)) = true := decide_eq_true (by omega)
          have e2 : decide (Q.r.k < l.length) = true := decide_eq_true hk
          clear hpar HPE HPM HPD hq36 hqd hk hFe hF
          go_wp2_with fail
          refine (HOK.out _ m4.rd).mono ?_
          rintro e w5 ⟨rfl, hw5⟩
          rw [hw5]
          clear hw5
          go_wp2_with fail
          refine (H36.out _ m4.rd).mono ?_
          rintro e w6 ⟨rfl, n6, hw6⟩
          have m6 : PR w6 (W.heap.size + 1 + 1) W.heap.size l Q v4 (.bool q) (.bool false) := by rw [hw6]; exact m4.drewN n6
          have b1 : CBlk 25 w6 W.heap.size [.slice none 0 0, .bool false, .bool false, .int .i64 0] := by rw [hw6]; exact b1
          have b2 : CBlk 28 w6 (W.heap.size + 1) [.int .i64 0, .int .i64 0] := by rw [hw6]; exact b2
          have hB6 : Below W.heap.size W w6 := by rw [hw6]; exact hB4.trans ⟨rfl, rfl, rfl, Nat.le_refl _, fun _ _ => rfl⟩
          clear hw6 m4 hB4
          obtain ⟨c0, c1, c6, c7⟩ := m6.rd.cells
          go_wp2_with fail
          refine (HOK.out _ m6.rd).mono ?_
          rintro e w7 ⟨rfl, hw7⟩
          rw [hw7]
          clear hw7
          go_wp2_with fail
          refine (HW.out _ m6.rd).mono ?_
          rintro e w7 ⟨rfl, r7, g7⟩
          have m7 := m6.step r7 g7
          have b17 := b1.kept g7 (fun e => by injection e; omega)
          have b27 := b2.kept g7 (fun e => by injection e; omega)
          have hB7 : Below W.heap.size W w7 := hB6.grown g7 hB6.size (fun r e => by injection e; omega)
          clear c0 c1 c6 c7 e1 e2 r7 g7 m6 b1 b2 hB6
          go_wp2_with fail
          refine (HOK2.out _ m7.rd).mono ?_
          rintro e w8 ⟨rfl, hw8⟩
          rw [hw8]
          clear hw8
          obtain ⟨k0, k1, k6, k7⟩ := m7.rd.cells
          have t0 := b17.cell 0 (by simp)
          have t1 := b17.cell 1 (by simp)
          have t2 := b17.cell 2 (by simp)
          have t3 := b17.cell 3 (by simp)
          have u0 := b27.cell 0 (by simp)
          have u1 := b27.cell 1 (by simp)
          simp only [List.getElem_cons_succ, List.getElem_cons_zero] at t0 t1 t2 t3 u0 u1
          have tf0 := b17.free 0
          have tf1 := b17.free 1
          have tf2 := b17.free 2
          have tf3 := b17.free 3
          have uf0 := b27.free 0
          have uf1 := b27.free 1
          clear HOK H36 HOK2
          go_wp2_with fail
          go_region
          all_goals
            go_wp2_with fail
            have c3 : CBlk 25 ((((((w7.setCell ⟨W.heap.size, 0, none⟩ (.slice none 0 0)).setCell ⟨W.heap.size, 1, none⟩ (.bool false)).setCell ⟨W.heap.size, 2, none⟩ (.bool false)).setCell ⟨W.heap.size, 3, none⟩ (.int .i64 0)).setCell ⟨W.heap.size + 1, 0, none⟩ (.int .i64 (ef : Int))).setCell ⟨W.heap.size + 1, 1, none⟩ (.int .i64 (af : Int))).drew W.heap.size [.slice none 0 0, .bool false, .bool false, .int .i64 0] :=
              CBlk.drew <| (((((b17.set 0 (.slice none 0 0)).set 1 (.bool false)).set 2 (.bool false)).set 3 (.int .i64 0)).other ⟨W.heap.size + 1, 0, none⟩ (by show W.heap.size + 1 ≠ _; omega) _).other ⟨W.heap.size + 1, 1, none⟩ (by show W.heap.size + 1 ≠ _; omega) _
            have c4 : CBlk 28 ((((((w7.setCell ⟨W.heap.size, 0, none⟩ (.slice none 0 0)).setCell ⟨W.heap.size, 1, none⟩ (.bool false)).setCell ⟨W.heap.size, 2, none⟩ (.bool false)).setCell ⟨W.heap.size, 3, none⟩ (.int .i64 0)).setCell ⟨W.heap.size + 1, 0, none⟩ (.int .i64 (ef : Int))).setCell ⟨W.heap.size + 1, 1, none⟩ (.int .i64 (af : Int))).drew (W.heap.size + 1) [.int .i64 (ef : Int), .int .i64 (af : Int)] :=
              CBlk.drew <| (((((b27.other ⟨W.heap.size, 0, none⟩ (by show W.heap.size ≠ _; omega) _).other ⟨W.heap.size, 1, none⟩ (by show W.heap.size ≠ _; omega) _).other ⟨W.heap.size, 2, none⟩ (by show W.heap.size ≠ _; omega) _).other ⟨W.heap.size, 3, none⟩ (by show W.heap.size ≠ _; omega) _).set 0 (.int .i64 (ef : Int))).set 1 (.int .i64 (af : Int))
            refine bodyPost_ret (tree_results c3 c4 rfl _ rfl rfl) rfl (RP.of ⟨.slice none 0 0, ?_, ?_, ?_⟩)
            · rw [HQ.out]; rfl
            · rw [HQ.out]; exact NdsAt.nil _
            · exact ((((((hB7.setCell (p := ⟨W.heap.size, 0, none⟩) (Nat.le_refl _) _).setCell (p := ⟨W.heap.size, 1, none⟩) (Nat.le_refl _) _).setCell (p := ⟨W.heap.size, 2, none⟩) (Nat.le_refl _) _).setCell (p := ⟨W.heap.size, 3, none⟩) (Nat.le_refl _) _).setCell (p := ⟨W.heap.size + 1, 0, none⟩) (Nat.le_succ _) _).setCell (p := ⟨W.heap.size + 1, 1, none⟩) (Nat.le_succ _) _).drew
        · have HQ := Lib.hid (HPD.out hqe hq36 hk)
          have e1 : decide ((Q.r.k : Int) < (l.length : Int)) = false := decide_eq_false (by omega)
          have e2 : decide (Q.r.k < l.length) = false := decide_eq_false hk
          clear HPE HPM HPD hq36 hqd hk
          go_wp2_with fail
          refine (HOK.out _ m4.rd).mono ?_
          rintro e w5 ⟨rfl, hw5⟩
          rw [hw5]
          clear hw5
          go_wp2_with fail
          refine (H36.out _ m4.rd).mono ?_
          rintro e w6 ⟨rfl, n6, hw6⟩
          have m7 : PR w6 (W.heap.size + 1 + 1) W.heap.size l Q v4 (.bool q) (.bool false) := by rw [hw6]; exact m4.drewN n6
          have b17 : CBlk 25 w6 W.heap.size [.slice none 0 0, .bool false, .bool false, .int .i64 0] := by rw [hw6]; exact b1
          have b27 : CBlk 28 w6 (W.heap.size + 1) [.int .i64 0, .int .i64 0] := by rw [hw6]; exact b2
          have hB7 : Below W.heap.size W w6 := by rw [hw6]; exact hB4.trans ⟨rfl, rfl, rfl, Nat.le_refl _, fun _ _ => rfl⟩
          clear hw6 m4 hB4 b1 b2
          obtain ⟨c0, c1, c6, c7⟩ := m7.rd.cells
          go_wp2_with fail
          refine (HOK.out _ m7.rd).mono ?_
          rintro e w7 ⟨rfl, hw7⟩
          rw [hw7]
          clear hw7
          go_wp2_with fail
          refine (HOK.out _ m7.rd).mono ?_
          rintro e w7 ⟨rfl, hw7⟩
          rw [hw7]
          clear hw7
          clear c0 c1 c6 c7 e1 e2
          obtain ⟨cp, cc, rfl⟩ := own_slice m7.row
          obtain ⟨k2, k3, k4, k5⟩ := m7.rd.cells2
          have t0 := b17.cell 0 (by simp)
          have t1 := b17.cell 1 (by simp)
          have t2 := b17.cell 2 (by simp)
          have t3 := b17.cell 3 (by simp)
          have u0 := b27.cell 0 (by simp)
          have u1 := b27.cell 1 (by simp)
          simp only [List.getElem_cons_succ, List.getElem_cons_zero] at t0 t1 t2 t3 u0 u1
          have tf0 := b17.free 0
          have tf1 := b17.free 1
          have tf2 := b17.free 2
          have tf3 := b17.free 3
          have uf0 := b27.free 0
          have uf1 := b27.free 1
          clear HOK H36
          go_wp2_with fail
          have c3 : CBlk 25 ((((((w6.setCell ⟨W.heap.size, 0, none⟩ (.slice cp Q.L.length cc)).setCell ⟨W.heap.size, 1, none⟩ (.bool q)).setCell ⟨W.heap.size, 2, none⟩ (.bool false)).setCell ⟨W.heap.size, 3, none⟩ (.int .i64 (Q.g : Int))).setCell ⟨W.heap.size + 1, 0, none⟩ (.int .i64 0)).setCell ⟨W.heap.size + 1, 1, none⟩ (.int .i64 0)) W.heap.size [.slice cp Q.L.length cc, .bool q, .bool false, .int .i64 (Q.g : Int)] :=
            (((((b17.set 0 (.slice cp Q.L.length cc)).set 1 (.bool q)).set 2 (.bool false)).set 3 (.int .i64 (Q.g : Int))).other ⟨W.heap.size + 1, 0, none⟩ (by show W.heap.size + 1 ≠ _; omega) _).other ⟨W.heap.size + 1, 1, none⟩ (by show W.heap.size + 1 ≠ _; omega) _
          have c4 : CBlk 28 ((((((w6.setCell ⟨W.heap.size, 0, none⟩ (.slice cp Q.L.length cc)).setCell ⟨W.heap.size, 1, none⟩ (.bool q)).setCell ⟨W.heap.size, 2, none⟩ (.bool false)).setCell ⟨W.heap.size, 3, none⟩ (.int .i64 (Q.g : Int))).setCell ⟨W.heap.size + 1, 0, none⟩ (.int .i64 0)).setCell ⟨W.heap.size + 1, 1, none⟩ (.int .i64 0)) (W.heap.size + 1) [.int .i64 0, .int .i64 0] :=
            (((((b27.other ⟨W.heap.size, 0, none⟩ (by show W.heap.size ≠ _; omega) _).other ⟨W.heap.size, 1, none⟩ (by show W.heap.size ≠ _; omega) _).other ⟨W.heap.size, 2, none⟩ (by show W.heap.size ≠ _; omega) _).other ⟨W.heap.size, 3, none⟩ (by show W.heap.size ≠ _; omega) _).set 0 (.int .i64 0)).set 1 (.int .i64 0)
          refine bodyPost_ret (tree_results c3 c4 rfl _ rfl rfl) rfl (RP.of ⟨.slice cp Q.L.length cc, ?_, ?_, ?_⟩)
          · rw [HQ.out]; rfl
          · rw [HQ.out]
            have hne1 : (Value.slice cp Q.L.length cc).ownBlock ≠ some W.heap.size := fun e => CBlk.not_row b17 (by decide) m7.row e.symm
            have hne2 : (Value.slice cp Q.L.length cc).ownBlock ≠ some (W.heap.size + 1) := fun e => CBlk.not_row b27 (by decide) m7.row e.symm
            exact nds_of_own (ownsRow_setCell_other (ownsRow_setCell_other (ownsRow_setCell_other (ownsRow_setCell_other (ownsRow_setCell_other (ownsRow_setCell_other m7.row hne1 _) hne1 _) hne1 _) hne1 _) hne2 _) hne2 _)
          · exact (((((hB7.setCell (p := ⟨W.heap.size, 0, none⟩) (Nat.le_refl _) _).setCell (p := ⟨W.heap.size, 1, none⟩) (Nat.le_refl _) _).setCell (p := ⟨W.heap.size, 2, none⟩) (Nat.le_refl _) _).setCell (p := ⟨W.heap.size, 3, none⟩) (Nat.le_refl _) _).setCell (p := ⟨W.heap.size + 1, 0, none⟩) (Nat.le_succ _) _).setCell (p := ⟨W.heap.size + 1, 1, none⟩) (Nat.le_succ _) _
    · have HQ := Lib.hid (HPF.out M hsim he)
      have HOK := Lib.hid fun W' h => rok_q l M.r v4 (.bool q) (.bool false) (.int .i64 (M.g : Int)) false (decide_eq_false he) W' (W.heap.size + 1 + 1) h
      clear HPE HPM HPD HPF hsim he
      go_wp2_with fail
      refine (HOK.out _ m4.rd).mono ?_
      rintro e w5 ⟨rfl, hw5⟩
      rw [hw5]
      clear hw5
      go_wp2_with fail
      refine (HOK.out _ m4.rd).mono ?_
      rintro e w5 ⟨rfl, hw5⟩
      rw [hw5]
      clear hw5
      go_wp2_with fail
      refine (HOK.out _ m4.rd).mono ?_
      rintro e w5 ⟨rfl, hw5⟩
      rw [hw5]
      clear hw5
      obtain ⟨k0, k1, k6, k7⟩ := m4.rd.cells
      have t0 := b1.cell 0 (by simp)
      have t1 := b1.cell 1 (by simp)
      have t2 := b1.cell 2 (by simp)
      have t3 := b1.cell 3 (by simp)
      have u0 := b2.cell 0 (by simp)
      have u1 := b2.cell 1 (by simp)
      simp only [List.getElem_cons_succ, List.getElem_cons_zero] at t0 t1 t2 t3 u0 u1
      have tf0 := b1.free 0
      have tf1 := b1.free 1
      have tf2 := b1.free 2
      have tf3 := b1.free 3
      have uf0 := b2.free 0
      have uf1 := b2.free 1
      clear HOK
      go_wp2_with fail
      go_region
      all_goals
        go_wp2_with fail
        have c3 : CBlk 25 ((((((w4.setCell ⟨W.heap.size, 0, none⟩ (.slice none 0 0)).setCell ⟨W.heap.size, 1, none⟩ (.bool false)).setCell ⟨W.heap.size, 2, none⟩ (.bool false)).setCell ⟨W.heap.size, 3, none⟩ (.int .i64 0)).setCell ⟨W.heap.size + 1, 0, none⟩ (.int .i64 (M.r.e : Int))).setCell ⟨W.heap.size + 1, 1, none⟩ (.int .i64 (M.r.a : Int))).drew W.heap.size [.slice none 0 0, .bool false, .bool false, .int .i64 0] :=
          CBlk.drew <| (((((b1.set 0 (.slice none 0 0)).set 1 (.bool false)).set 2 (.bool false)).set 3 (.int .i64 0)).other ⟨W.heap.size + 1, 0, none⟩ (by show W.heap.size + 1 ≠ _; omega) _).other ⟨W.heap.size + 1, 1, none⟩ (by show W.heap.size + 1 ≠ _; omega) _
        have c4 : CBlk 28 ((((((w4.setCell ⟨W.heap.size, 0, none⟩ (.slice none 0 0)).setCell ⟨W.heap.size, 1, none⟩ (.bool false)).setCell ⟨W.heap.size, 2, none⟩ (.bool false)).setCell ⟨W.heap.size, 3, none⟩ (.int .i64 0)).setCell ⟨W.heap.size + 1, 0, none⟩ (.int .i64 (M.r.e : Int))).setCell ⟨W.heap.size + 1, 1, none⟩ (.int .i64 (M.r.a : Int))).drew (W.heap.size + 1) [.int .i64 (M.r.e : Int), .int .i64 (M.r.a : Int)] :=
          CBlk.drew <| (((((b2.other ⟨W.heap.size, 0, none⟩ (by show W.heap.size ≠ _; omega) _).other ⟨W.heap.size, 1, none⟩ (by show W.heap.size ≠ _; omega) _).other ⟨W.heap.size, 2, none⟩ (by show W.heap.size ≠ _; omega) _).other ⟨W.heap.size, 3, none⟩ (by show W.heap.size ≠ _; omega) _).set 0 (.int .i64 (M.r.e : Int))).set 1 (.int .i64 (M.r.a : Int))
        refine bodyPost_ret (tree_results c3 c4 rfl _ rfl rfl) rfl (RP.of ⟨.slice none 0 0, ?_, ?_, ?_⟩)
        · rw [HQ.out]; rfl
        · rw [HQ.out]; exact NdsAt.nil _
        · exact ((((((hB4.setCell (p := ⟨W.heap.size, 0, none⟩) (Nat.le_refl _) _).setCell (p := ⟨W.heap.size, 1, none⟩) (Nat.le_refl _) _).setCell (p := ⟨W.heap.size, 2, none⟩) (Nat.le_refl _) _).setCell (p := ⟨W.heap.size, 3, none⟩) (Nat.le_refl _) _).setCell (p := ⟨W.heap.size + 1, 0, none⟩) (Nat.le_succ _) _).setCell (p := ⟨W.heap.size + 1, 1, none⟩) (Nat.le_succ _) _).drew
end Go.Proofs.YtdnbnigebejgjaaGreatDoor
