/-
  The reference's reader of patterns: its nodes in memory; a node more; a link.
  The reference's reader of patterns with its nodes in memory; when a sequence goes on; where sets end.
-/
import Derived.Test.YtdnbnigebejgjaaGreatDoorHV10
namespace Go.Proofs.YtdnbnigebejgjaaGreatDoor
open Go.RowKit
theorem RF.not_row {w : World} {B : Nat} {t : List UInt8} {s : RS} {x2 x3 x4 x5 : Value} (h : RF w B t s x2 x3 x4 x5) {base size k : Nat} {e : TypeId} {v : Value} {xs : List Value} (hte : 67 ≠ e) (hr : w.ownsRow base e size v k xs) : some B ≠ v.ownBlock := CBlk.not_row h.2.2 hte hr
theorem RF.nodes {w : World} {B : Nat} {t : List UInt8} {s : RS} {x2 x3 x4 x5 : Value} (h : RF w B t s x2 x3 x4 x5) (v : Value) : RF (w.setCell ⟨B, 2, none⟩ v) B t s v x3 x4 x5 := ⟨h.1, h.2.1, CBlk.set h.2.2 2 v⟩
set_option maxHeartbeats 4000000 in
set_option maxRecDepth 100000 in
theorem rAdd_any (t : List UInt8) (s : RS) (v x3 x4 x5 : Value) (n : ND) (L : List ND) (hL : L.length < 1000000) (N : Nat) (W : World) (B : Nat) (hN : N ≤ W.heap.size) (h : RF W B t s v x3 x4 x5) (hrow : W.ownsRow N 54 9 v L.length (ndsC L)) :
    Calls Tryz.prog 55 #[.pointer (some ⟨B, 0, none⟩), ndV n] W fun e w' => e = .returned (.int .i64 (L.length : Int)) ∧ ∃ v', RF w' B t s v' x3 x4 x5 ∧ w'.ownsRow N 54 9 v' (L.length + 1) (ndsC (L ++ [{ n with first := -1, next := -1 }])) ∧ PF B v v' W w' := by
  obtain ⟨i0, hi, hz0, hz1, hz2⟩ := info_parts infoNd
  have hnr := h.not_row (by decide) hrow
  have hlt := h.lt
  obtain ⟨p, c, rfl⟩ := own_slice hrow
  unfold ndV ndC
  go_enter Tryz.func55, Tryz.ntmps55
  go_upto_region 1 with fail
  have hb0 : CBlk 54 (W.alloc (.cells #[.int .i64 n.kind, .int .i64 n.times, .int .u64 (n.set.a.toNat : Int), .int .u64 (n.set.b.toNat : Int), .int .u64 (n.set.c.toNat : Int), .int .u64 (n.set.d.toNat : Int), .int .i64 n.group, .int .i64 n.first, .int .i64 n.next] 54)) W.heap.size (ndC n) := CBlk.new _ W (ndC n)
  have h0 := h.alloc (.cells #[.int .i64 n.kind, .int .i64 n.times, .int .u64 (n.set.a.toNat : Int), .int .u64 (n.set.b.toNat : Int), .int .u64 (n.set.c.toNat : Int), .int .u64 (n.set.d.toNat : Int), .int .i64 n.group, .int .i64 n.first, .int .i64 n.next] 54)
  have r0 := hrow.alloc (.cells #[.int .i64 n.kind, .int .i64 n.times, .int .u64 (n.set.a.toNat : Int), .int .u64 (n.set.b.toNat : Int), .int .u64 (n.set.c.toNat : Int), .int .u64 (n.set.d.toNat : Int), .int .i64 n.group, .int .i64 n.first, .int .i64 n.next] 54)
  have g0 := World.grownBy_alloc W (.cells #[.int .i64 n.kind, .int .i64 n.times, .int .u64 (n.set.a.toNat : Int), .int .u64 (n.set.b.toNat : Int), .int .u64 (n.set.c.toNat : Int), .int .u64 (n.set.d.toNat : Int), .int .i64 n.group, .int .i64 n.first, .int .i64 n.next] 54) none
  obtain ⟨X0, hX0⟩ : ∃ X0, W.alloc (.cells #[.int .i64 n.kind, .int .i64 n.times, .int .u64 (n.set.a.toNat : Int), .int .u64 (n.set.b.toNat : Int), .int .u64 (n.set.c.toNat : Int), .int .u64 (n.set.d.toNat : Int), .int .i64 n.group, .int .i64 n.first, .int .i64 n.next] 54) = X0 := ⟨_, rfl⟩
  rw [hX0] at hb0 h0 r0 g0 ⊢
  clear hX0
  have q7 := hb0.cell 7 (by simp [ndC])
  have q8 := hb0.cell 8 (by simp [ndC])
  have p7 := hb0.free 7
  have p8 := hb0.free 8
  go_upto_region 2 with fail
  have hb1 := (hb0.set 7 (.int .i64 (-1))).set 8 (.int .i64 (-1))
  have h1 : RF ((X0.setCell ⟨W.heap.size, 7, none⟩ (.int .i64 (-1))).setCell ⟨W.heap.size, 8, none⟩ (.int .i64 (-1))) B t s (.slice p L.length c) x3 x4 x5 := ⟨h0.1, h0.2.1, (CBlk.other h0.2.2 ⟨W.heap.size, 7, none⟩ (by show W.heap.size ≠ B; omega) _).other ⟨W.heap.size, 8, none⟩ (by show W.heap.size ≠ B; omega) _⟩
  have g1 : W.grownBy ((X0.setCell ⟨W.heap.size, 7, none⟩ (.int .i64 (-1))).setCell ⟨W.heap.size, 8, none⟩ (.int .i64 (-1))) none := jgst (jgst g0 (p := ⟨W.heap.size, 7, none⟩) (Nat.le_refl _) _) (p := ⟨W.heap.size, 8, none⟩) (Nat.le_refl _) _
  have r1 := hrow.kept g1 (Decidable.em _)
  obtain ⟨X, hX⟩ : ∃ X, (X0.setCell ⟨W.heap.size, 7, none⟩ (.int .i64 (-1))).setCell ⟨W.heap.size, 8, none⟩ (.int .i64 (-1)) = X := ⟨_, rfl⟩
  rw [hX] at hb1 h1 r1 g1 ⊢
  clear hX q7 q8 p7 p8 hb0 h0 r0 g0
  have k0 := hb1.cell 0 (by simp [ndC])
  have k1 := hb1.cell 1 (by simp [ndC])
  have k2 := hb1.cell 2 (by simp [ndC])
  have k3 := hb1.cell 3 (by simp [ndC])
  have k4 := hb1.cell 4 (by simp [ndC])
  have k5 := hb1.cell 5 (by simp [ndC])
  have k6 := hb1.cell 6 (by simp [ndC])
  have k7 := hb1.cell 7 (by simp [ndC])
  have k8 := hb1.cell 8 (by simp [ndC])
  simp only [ndC, List.set_cons_succ, List.set_cons_zero, List.getElem_cons_succ, List.getElem_cons_zero] at k0 k1 k2 k3 k4 k5 k6 k7 k8
  obtain ⟨d4, d5, d6, d7⟩ := h1.cells2
  have f4 := h1.free 2
  have hls := hb1.lt
  have hlB := h1.lt
  go_region_law (refine step_append_lies _ rfl _ _ 23 rfl N 54 i0 (.agg #[.int .i64 0, .int .i64 0, .int .u64 0, .int .u64 0, .int .u64 0, .int .u64 0, .int .i64 0, .int .i64 0, .int .i64 0]) 9 72 Tryz.underlying23 hi hz0 hz1 hz2 rfl (by decide) (.slice p L.length c) L.length (ndsC L) rfl ((r1.alloc _).drew) ⟨X.heap.size, 0, none⟩ 1 1 (ndC { n with first := -1, next := -1 }) rfl rfl (World.news_of_block (heap_alloc_new X _)) (ndC_one _) (by decide) (by unfold maxLen; omega) (by omega) (by simp; omega) _ rfl ?_; intro g cap w1 hown1 hgrow1 hg1 _; have h2 := (h1.alloc _).drew.kept hgrow1 hnr; obtain ⟨e4, e5, e6, e7⟩ := h2.cells2; have e8 := h2.free 2)
  all_goals
    go_wp2_with fail
    go_ret
    refine ⟨rfl, .slice (some ⟨g, 0, none⟩) (L.length + 1) cap, h2.nodes _, ?_, ?_⟩
    · rw [ndsC_append]
      have hx : ndsC [{ n with first := -1, next := -1 }] = ndC { n with first := -1, next := -1 } := List.append_nil _
      rw [hx]
      exact ownsRow_setCell_other hown1 (fun e => h2.not_row (by decide) hown1 e.symm) _
    · refine ⟨hgrow1.os.trans g1.os, hgrow1.tape.trans g1.tape, hgrow1.output.trans g1.output, ?_, fun k hk h1 h2 => ?_, ?_⟩
      · have := hgrow1.size
        have := g1.size
        simp [World.setCell] at *
        omega
      · have hk1 : k < X.heap.size := Nat.lt_of_lt_of_le hk g1.size
        refine (Below.heap_setCell _ _ _ _ h1).trans ((hgrow1.block k (by simp; omega) (fun e => h2 e.symm)).trans ((Below.heap_alloc _ _ _ hk1).trans (g1.block k hk (by simp))))
      · rcases hg1 with e | e
        · exact .inl e.symm
        · refine .inr fun r hr => ?_
          injection hr with hr
          subst hr
          rw [e]
          have := g1.size
          simp
          omega
/-- The place of a link. -/
def lnk (parent : Nat) (before : Int) : Nat × Bool := if before < 0 then (parent, false) else (before.toNat, true)
set_option maxHeartbeats 4000000 in
set_option maxRecDepth 100000 in
theorem rLink_any (t : List UInt8) (s : RS) (g cap : Nat) (x3 x4 x5 : Value) (L : List ND) (N : Nat) (W : World) (B : Nat) (parent : Nat) (before : Int) (x : Nat) (hp : parent < L.length) (hb : before < 0 ∨ ∃ k : Nat, before = (k : Int) ∧ k < L.length) (h : RF W B t s (.slice (some ⟨g, 0, none⟩) L.length cap) x3 x4 x5) (hrow : W.ownsRow N 54 9 (.slice (some ⟨g, 0, none⟩) L.length cap) L.length (ndsC L)) :
    Calls Tryz.prog 56 #[.pointer (some ⟨B, 0, none⟩), .int .i64 (parent : Int), .int .i64 before, .int .i64 (x : Int)] W fun e w' => e = .returned (.tuple #[]) ∧ RF w' B t s (.slice (some ⟨g, 0, none⟩) L.length cap) x3 x4 x5 ∧ w'.ownsRow N 54 9 (.slice (some ⟨g, 0, none⟩) L.length cap) L.length (ndsC (putL L (lnk parent before) x)) ∧ W.grownBy w' (some g) := by
  have hnr : B ≠ g := fun e => h.not_row (by decide) hrow (by rw [e]; rfl)
  obtain ⟨d4, d5, d6, d7⟩ := h.cells2
  by_cases hlt : before < 0
  · have hl : lnk parent before = (parent, false) := if_pos hlt
    have a1 : decide (before < 0) = true := decide_eq_true hlt
    have hb1 : (parent : Int) < (L.length : Int) := by omega
    have hst := hrow.stored (plO (parent, false)) (.int .i64 (x : Int))
    rw [ndsC_put L (parent, false) hp x] at hst
    obtain ⟨r1, g1⟩ := hst
    have hlen9 : plO (parent, false) < L.length * 9 := by show parent * 9 + 7 < _; omega
    have c0 := hrow.cellAt (plO (parent, false)) hlen9
    have hxx : (ndsC L)[plO (parent, false)]? = some ((ndsC L)[plO (parent, false)]'(by rw [ndsC_length]; exact hlen9)) := List.getElem?_eq_getElem _
    rw [hxx] at c0
    have c0 : ∃ cv, W.cell? _ = some cv := ⟨_, c0⟩
    obtain ⟨cv, c0⟩ := c0
    have f0 := hrow.frozenAt (plO (parent, false))
    have hpl : plO (parent, false) = parent * 9 + 7 := rfl
    rw [hpl] at c0 f0
    have h1 := h.kept g1 (fun e => hnr (by injection e))
    have HR := Lib.hid (And.intro h1 (And.intro r1 g1))
    have HL := Lib.hid hl
    clear hxx h1 r1 g1 hl
    go_enter Tryz.func56, Tryz.ntmps56
    go_wp2_with fail
    exact bodyPost_end (v := .tuple #[]) (by simp [Go.results, Tryz.results56, go_sem]) rfl ⟨rfl, HR.out.1, by rw [HL.out]; exact HR.out.2.1, HR.out.2.2⟩
  · obtain ⟨k, rfl, hkl⟩ : ∃ k : Nat, before = (k : Int) ∧ k < L.length := by
      rcases hb with hb | hb
      · exact absurd hb hlt
      · exact hb
    have hl : lnk parent (k : Int) = (k, true) := by unfold lnk; rw [if_neg hlt]; rfl
    have a1 : decide ((k : Int) < 0) = false := decide_eq_false hlt
    have hb1 : (k : Int) < (L.length : Int) := by omega
    have hst := hrow.stored (plO (k, true)) (.int .i64 (x : Int))
    rw [ndsC_put L (k, true) hkl x] at hst
    obtain ⟨r1, g1⟩ := hst
    have hlen9 : plO (k, true) < L.length * 9 := by show k * 9 + 8 < _; omega
    have c0 := hrow.cellAt (plO (k, true)) hlen9
    have hxx : (ndsC L)[plO (k, true)]? = some ((ndsC L)[plO (k, true)]'(by rw [ndsC_length]; exact hlen9)) := List.getElem?_eq_getElem _
    rw [hxx] at c0
    have c0 : ∃ cv, W.cell? _ = some cv := ⟨_, c0⟩
    obtain ⟨cv, c0⟩ := c0
    have f0 := hrow.frozenAt (plO (k, true))
    have hpl : plO (k, true) = k * 9 + 8 := rfl
    rw [hpl] at c0 f0
    have h1 := h.kept g1 (fun e => hnr (by injection e))
    have HR := Lib.hid (And.intro h1 (And.intro r1 g1))
    have HL := Lib.hid hl
    clear hxx h1 r1 g1 hl hb
    go_enter Tryz.func56, Tryz.ntmps56
    go_wp2_with fail
    exact bodyPost_end (v := .tuple #[]) (by simp [Go.results, Tryz.results56, go_sem]) rfl ⟨rfl, HR.out.1, by rw [HL.out]; exact HR.out.2.1, HR.out.2.2⟩
end Go.Proofs.YtdnbnigebejgjaaGreatDoor
namespace Go.Proofs.YtdnbnigebejgjaaGreatDoor
open Go.RowKit
theorem need_k {t : List UInt8} {s : RS} {x : List UInt8} (h : s.k ≤ t.length) : (needR t s x).k ≤ t.length := by
  unfold needR
  split
  · exact take_k h
  · rw [fail_k]; exact h
theorem clsL_k {t : List UInt8} : ∀ (m : Nat) (s : RS) (w : WSet), s.k ≤ t.length → (clsL t m s w).2.k ≤ t.length
  | 0, _, _, h => h
  | m + 1, s, w, h => by
    unfold clsL
    split
    · exact clsL_k m _ _ (el_k h)
    · exact h
theorem cls_k {t : List UInt8} {s : RS} (h : s.k ≤ t.length) : (clsR t s).k ≤ t.length := by
  have h1 : (clsIn t s).2.k ≤ t.length := clsL_k _ _ _ (el_k (take_k h))
  unfold clsR clsEnd
  refine need_k ?_
  split
  · rw [fail_k]; exact h1
  · exact h1
theorem set_k {t : List UInt8} {s : RS} (h : s.k ≤ t.length) : (setR t s).k ≤ t.length := by
  unfold setR
  split
  · unfold namedR
    split <;> exact take_k h
  · split
    · exact take_k h
    · split
      · exact cls_k (take_k h)
      · exact one_k (take_k h)
/-- When the reference's sequence goes on. -/
theorem cond_val {t : List UInt8} {k a : Nat} : (seesB t ⟨k, 0, a⟩ behindL || doomB t ⟨k, 0, a⟩) = (decide (k < t.length) && (!(isB t k 124) && (!(isB t k 41) && !(isB t k 36 && decide (k + 1 = t.length))))) := by
  by_cases hk : k < t.length
  · have hr := hd_at (t := t) (s := ⟨k, 0, a⟩) rfl hk
    dsimp only at hr
    rw [sees_hd hk, isB_in _ hk, isB_in _ hk, isB_in _ hk, decide_eq_true hk]
    unfold doomB
    rw [hr]
    dsimp only
    have hz : (t.drop (k + 1)).isEmpty = decide (k + 1 = t.length) := by
      by_cases h : k + 1 = t.length
      · rw [decide_eq_true h, List.drop_eq_nil_of_le (by omega)]; rfl
      · rw [decide_eq_false h, List.drop_eq_getElem_cons (by omega)]; rfl
    rw [hz]
    generalize t[k] = c
    generalize decide (k + 1 = t.length) = d
    have hb : behindL.contains c = false → (c == 124) = false ∧ (c == 41) = false ∧ (c == 36) = false := fun h => by
      unfold behindL at h
      simp only [List.contains_cons, List.contains_nil, Bool.or_false, Bool.or_eq_false_iff] at h
      exact ⟨h.2.2.2.2.2.2.2, h.2.2.2.2.2.1, h.2.1⟩
    cases hc : behindL.contains c with
    | true => simp
    | false =>
      obtain ⟨h1, h2, h3⟩ := hb hc
      rw [h1, h2, h3]
      rfl
  · rw [decide_eq_false hk]
    have hr : restR t ⟨k, 0, a⟩ = [] := by unfold restR; rw [if_pos rfl]; exact List.drop_eq_nil_of_le (by dsimp only; omega)
    unfold seesB doomB
    rw [hr]
    rfl
/-- Block B holds the reference's reader in the state S; its nodes lie in a row of its own, from N on. -/
structure PR (w : World) (B N : Nat) (t : List UInt8) (S : PS) (v x3 x4 : Value) : Prop where
  rd : RF w B t S.r v x3 x4 (.int .i64 (S.g : Int))
  row : w.ownsRow N 54 9 v S.L.length (ndsC S.L)
  hi : N ≤ B
theorem PR.lt {w : World} {B N : Nat} {t : List UInt8} {S : PS} {v x3 x4 : Value} (h : PR w B N t S v x3 x4) : B < w.heap.size := h.rd.lt
theorem PR.own {w : World} {B N : Nat} {t : List UInt8} {S : PS} {v x3 x4 : Value} (h : PR w B N t S v x3 x4) : ∀ r, v.ownBlock = some r → N ≤ r := fun r hr => (h.row.lt r hr).1
theorem PR.ne {w : World} {B N : Nat} {t : List UInt8} {S : PS} {v x3 x4 : Value} (h : PR w B N t S v x3 x4) : some B ≠ v.ownBlock := h.rd.not_row (by decide) h.row
theorem PR.step {w w' : World} {B N : Nat} {t : List UInt8} {S : PS} {v x3 x4 : Value} {r : RS} (h : PR w B N t S v x3 x4) (hr : RF w' B t r v x3 x4 (.int .i64 (S.g : Int))) (hg : w.grownBy w' (some B)) : PR w' B N t { S with r := r } v x3 x4 :=
  ⟨hr, h.row.kept hg (.inr (fun e => h.ne e.symm)), h.hi⟩
theorem PR.drewN {w : World} {B N : Nat} {t : List UInt8} {S : PS} {v x3 x4 : Value} (h : PR w B N t S v x3 x4) (n : Nat) : PR (w.drewN n) B N t S v x3 x4 :=
  ⟨h.rd.drewN n, h.row.kept (jgdrewN (jgrefl w none) n) (by cases v.ownBlock with
    | none => exact .inl rfl
    | some r => exact .inr (by simp)), h.hi⟩
theorem PF.drewN {B : Nat} {v v' : Value} {a b : World} (h : PF B v v' a b) (n : Nat) : PF B v v' a (b.drewN n) := ⟨h.os, h.tape, h.output, h.size, h.block, h.own⟩
theorem PR.add {w w' : World} {B N : Nat} {t : List UInt8} {S : PS} {v v' x3 x4 : Value} {n : ND} (h : PR w B N t S v x3 x4) (hr : RF w' B t S.r v' x3 x4 (.int .i64 (S.g : Int))) (hw : w'.ownsRow N 54 9 v' (S.L.length + 1) (ndsC (S.L ++ [{ n with first := -1, next := -1 }]))) : PR w' B N t (addP S n) v' x3 x4 :=
  ⟨hr, by rw [show (addP S n).L = S.L ++ [{ n with first := -1, next := -1 }] from rfl, List.length_append]; exact hw, h.hi⟩
/-- What the reference's piece does, to f bytes. -/
def PieceR (t : List UInt8) (f : Nat) (pc : PS → Nat × PS) (B N : Nat) (x3 x4 : Value) : Prop :=
  ∀ (S : PS) (v : Value) (W : World), PR W B N t S v x3 x4 → S.r.e = 0 → S.r.k < t.length → vl t S.r ≤ f → (seesB t S.r behindL || doomB t S.r) = true → pot t S ≤ 100000 → gp t S ≤ 100000 →
    Calls Tryz.prog 75 #[.pointer (some ⟨B, 0, none⟩)] W fun e w' => ∃ (z : Int) (M : PS) (v' : Value), e = .returned (.int .i64 z) ∧ PR w' B N t M v' x3 x4 ∧ PF B v v' W w' ∧ JLE t 0 S M ∧
      (seesB t S.r behindL = true → ((pc S).2.r.e = 0 → z = ((pc S).1 : Int) ∧ M = (pc S).2) ∧ ((pc S).2.r.e ≠ 0 → M.r.e = (pc S).2.r.e ∧ M.r.a = (pc S).2.r.a)) ∧ (doomB t S.r = true → M.r.e = 3 ∧ M.r.a = S.r.k)
theorem rok_q (t : List UInt8) (s : RS) (x2 x3 x4 x5 : Value) (q : Bool) (hq : decide (s.e = 0) = q) (W : World) (B : Nat) (h : RF W B t s x2 x3 x4 x5) :
    Calls Tryz.prog 35 #[.pointer (some ⟨B, 0, none⟩)] W fun e w' => e = .returned (.bool q) ∧ w' = W := by
  rw [← hq]
  exact rOk_any t s x2 x3 x4 x5 W B h
end Go.Proofs.YtdnbnigebejgjaaGreatDoor
