/-
  A range over an iterator of the program that calls yield with the values of a list, one after the other: what the iterator owes, and what the loop's body owes.
  The children of a node: pattern.children and its iterator, over any nodes; a child that is no node is the last one that comes.
  When nodes are a tree, purely: a node has what its kind has; what lies below it; and the program's tests of single nodes.
-/
import Derived.Test.YtdnbnigebejgjaaGreatDoorHQ11
import Derived.RangeFuncNested
import Derived.RangeFuncCalls
import Derived.RangeFuncLeaves
import Derived.RangeFuncBox
import Derived.Shelf.Abstract
import Derived.Shelf.RegionOpen
import Derived.OwnWalkIn
import Derived.TacticsInMore
import Derived.LoopNIn
import Derived.LoopIn
import Derived.RegionIn
import Derived.Sort.CutIn
import Derived.BigRegionIn
namespace Go.Proofs.YtdnbnigebejgjaaGreatDoor
open Go.RowKit Go.Shelf
/-- A fact that abides what new blocks do, from M on (if they may be written at all). -/
def AbJ (M : Nat) (st : Bool) (J : Nat → World → Prop) : Prop := ∀ j X X' row, J j X → X.grownBy X' row → (∀ r, row = some r → M ≤ r ∧ st = true) → J j X'
/-- What an iterator owes: it calls yield with the values of E, in their order; a bad one is its last. -/
def IterL (st : Bool) (fid : Nat) (lb : Array Value) (E : List (Array Value)) (Bad : Nat → Prop) (ks : Nat → Prop) (w0 : World) : Prop :=
  ∀ (n lp : Nat) (J Jx : Nat → World → Prop) (W : World), Below w0.heap.size w0 W → AbJ W.heap.size st J → AbJ W.heap.size st Jx →
    (∀ j (hj : j < E.length) m X, J j X → W.heap.size ≤ X.heap.size → YieldAt Fence.wide m Tryz.prog lp E[j] X fun e X' =>
      (e = .returned (.bool true) ∧ ¬ Bad j ∧ J (j + 1) X' ∧ KeepsAt ks X X' ∧ X.heap.size ≤ X'.heap.size) ∨ (e = .returned (.bool false) ∧ Jx (j + 1) X')) →
    J 0 W →
    CallsIn Fence.wide n Tryz.prog fid (#[.func (.yield lp) #[] #[]] ++ lb) W fun e W' => (∃ v, e = .returned v) ∧ (J E.length W' ∨ ∃ j, Jx j W')
/-- The record of a loop. -/
def jrec (fn : FuncId) (tmps : Array Value) (ps : Array Tmp) (assign body : Code) (N : Nat) (st : LoopState) (pe : Option Code) : Loop :=
  { state := st, pending := pe, fn := fn, tmps := tmps, params := ps, assign := assign, body := body, defers := N }
/-- The two blocks of a loop lie as they lay. -/
def RecK (N : Nat) (W W' : World) : Prop := W'.heap[N]? = W.heap[N]? ∧ W'.heap[N + 1]? = W.heap[N + 1]?
theorem RecK.refl (N : Nat) (W : World) : RecK N W W := ⟨rfl, rfl⟩
theorem RecK.trans {N : Nat} {A B C : World} (h : RecK N A B) (k : RecK N B C) : RecK N A C := ⟨k.1.trans h.1, k.2.trans h.2⟩
theorem RecK.below {N M : Nat} {A B : World} (h : Below M A B) (hM : N + 2 ≤ M) : RecK N A B := ⟨h.block N (by omega), h.block (N + 1) (by omega)⟩
theorem RecK.grown {N : Nat} {A B : World} {row : Option Nat} (h : A.grownBy B row) (hA : N + 2 ≤ A.heap.size) (hr : ∀ r, row = some r → r ≠ N ∧ r ≠ N + 1) : RecK N A B :=
  ⟨h.block N (by omega) (fun e => (hr N e.symm).1 rfl), h.block (N + 1) (by omega) (fun e => (hr (N + 1) e.symm).2 rfl)⟩
/-- How a round's body may end. -/
def bodyL (N : Nat) (ks : Nat → Prop) (B : Prop) (I : World → Prop) (Ix : World → Prop) (W : World) : Exit → Act → World → Prop
  | .normal, _, W' => RecK N W W' ∧ KeepsAt ks W W' ∧ W.heap.size ≤ W'.heap.size ∧ ¬ B ∧ I W'
  | .ret, _, W' => RecK N W W' ∧ Ix W'
  | _, _, _ => False
theorem keepsAt_putObj {ks : Nat → Prop} (W : World) (l : Nat) (o : Obj) (h : ¬ ks l) : KeepsAt ks W (W.putObj l o) := fun _ hk => World.putObj_heap_other (fun e => h (e ▸ hk))
theorem keepsAt_grown {ks : Nat → Prop} {A B : World} {row : Option Nat} (h : A.grownBy B row) (hk : ∀ k, ks k → k < A.heap.size ∧ some k ≠ row) : KeepsAt ks A B := fun k hp => h.block k (hk k hp).1 (hk k hp).2
set_option maxHeartbeats 2000000 in
theorem rangeL {st : Bool} {n : Nat} {g : Operand} {ps : Array Tmp} {assign body : Code} {Q : Exit → Act → World → Prop} {a : Act} {w : World}
    {fid : Nat} {lb : Array Value} {E : List (Array Value)} {Bad : Nat → Prop} {ks : Nat → Prop}
    (hg : a.eval g = .func (.func fid) #[] lb) (eg : ∀ args w, (callFunc fid args).run Tryz.prog w = .ok (.enter fid args) w)
    (hE : ∀ j (hj : j < E.length), (E[j]).size = ps.size) (hit : IterL st fid lb E Bad ks w) (hks : ∀ k, ks k → k < w.heap.size)
    (I : Nat → World → Prop) (Ix : World → Prop)
    (hI : ∀ j X X' row, I j X → X.grownBy X' row → (∀ r, row = some r → w.heap.size ≤ r ∧ (st = false → r < w.heap.size + 2)) → I j X')
    (hIx : ∀ X X' row, Ix X → X.grownBy X' row → (∀ r, row = some r → w.heap.size ≤ r ∧ (st = false → r < w.heap.size + 2)) → Ix X')
    (h0 : I 0 w)
    (hround : ∀ j (hj : j < E.length) m X, I j X → w.heap.size + 2 ≤ X.heap.size →
      assign.wpIn (Fence.wide.inRound (w.heap.size + 1)) m Tryz.prog
        (Exit.then (fun a₁ w₁ => w₁ = X ∧ ∀ w₂, X.grownBy w₂ (some (w.heap.size + 1)) → body.wpIn (Fence.wide.inRound (w.heap.size + 1)) m Tryz.prog (bodyL w.heap.size ks (Bad j) (I (j + 1)) Ix w₂) a₁ w₂) (fun _ _ _ => False))
        { tmps := (ps.zip E[j]).foldl (fun t (p, v) => t.setIfInBounds p v) a.tmps, defers := [] } X)
    (hdone : ∀ W', I E.length W' → w.heap.size + 2 ≤ W'.heap.size → W'.heap[w.heap.size]? = some (.deferred (some [])) → Q .normal { a with defers := { target := .collected w.heap.size, args := #[] } :: a.defers } W')
    (hstop : ∀ W', Ix W' → W'.heap[w.heap.size]? = some (.deferred (some [])) → Code.ret.wpIn Fence.wide n Tryz.prog Q { a with defers := { target := .collected w.heap.size, args := #[] } :: a.defers } W') :
    (Code.rangeFunc g ps assign body).wpIn Fence.wide n Tryz.prog Q a w := by
  refine wpIn_rangeFunc ?_
  intro fn hfn
  obtain ⟨R, hR⟩ : ∃ R, R = jrec fn a.tmps ps assign body w.heap.size := ⟨_, rfl⟩
  obtain ⟨W1, hW1⟩ : ∃ W1, (w.alloc (.deferred (some []))).alloc (.loop (R .ready none)) = W1 := ⟨_, rfl⟩
  have hL1 : W1.heap[w.heap.size + 1]? = some (.loop (R .ready none)) := by
    rw [← hW1]
    have := World.alloc_heap_new (w.alloc (.deferred (some []))) (.loop (R .ready none))
    rwa [World.size_alloc] at this
  have hK1 : W1.heap[w.heap.size]? = some (.deferred (some [])) := by
    rw [← hW1]
    exact (Below.heap_alloc _ _ _ (by simp)).trans (World.alloc_heap_new w _)
  have hgN : w.grownBy W1 none := by
    rw [← hW1]
    exact jgal (jgal (jgrefl _ _) _) _
  have hbN : Below w.heap.size w W1 := by
    rw [← hW1]
    exact ((Below.refl _ w).alloc (Nat.le_refl _) _).alloc (by simp) _
  have hsz1 : W1.heap.size = w.heap.size + 2 := by rw [← hW1]; simp
  refine ⟨w.heap.size + 1, [{ target := .collected w.heap.size, args := #[] }], W1, { target := .fn (.func fid) lb, args := #[.func (.yield (w.heap.size + 1)) #[] #[]] }, W1, fid,
    #[.func (.yield (w.heap.size + 1)) #[] #[]] ++ lb, W1, ?_, ?_, ?_, ?_, (fun h => by cases h), ?_⟩
  · rw [← hW1, hR]
    exact run_enterLoop_outer _ _ _ _ _
  · simp only [resolve, hg]
    simp [go_sem]
  · intro f' hf'
    trivial
  · simp [invoke, go_sem, eg]
  · refine (hit (n - 1) (w.heap.size + 1)
      (fun j X => I j X ∧ w.heap.size + 2 ≤ X.heap.size ∧ X.heap[w.heap.size + 1]? = some (.loop (R .ready none)) ∧ X.heap[w.heap.size]? = some (.deferred (some [])))
      (fun _ X => Ix X ∧ X.heap[w.heap.size + 1]? = some (.loop (R .done (some .ret))) ∧ X.heap[w.heap.size]? = some (.deferred (some [])))
      W1 hbN ?aJ ?aX ?hY ⟨hI _ _ _ _ h0 hgN (fun r e => by cases e), by omega, hL1, hK1⟩).mono ?post
    case aJ =>
      rintro j X X' row ⟨hi, hs, hl, hk⟩ hgr hr
      have hne : ∀ k, k < w.heap.size + 2 → some k ≠ row := fun k hk2 e => by have := (hr k e.symm).1; omega
      exact ⟨hI _ _ _ _ hi hgr (fun r e => ⟨by have := (hr r e).1; omega, fun h => by rw [(hr r e).2] at h; cases h⟩), Nat.le_trans hs hgr.size, (hgr.block _ (by omega) (hne _ (by omega))).trans hl, (hgr.block _ (by omega) (hne _ (by omega))).trans hk⟩
    case aX =>
      rintro j X X' row ⟨hi, hl, hk⟩ hgr hr
      have hlt : w.heap.size + 1 < X.heap.size := (Array.getElem?_eq_some_iff.1 hl).1
      have hne : ∀ k, k < w.heap.size + 2 → some k ≠ row := fun k hk2 e => by have := (hr k e.symm).1; omega
      exact ⟨hIx _ _ _ hi hgr (fun r e => ⟨by have := (hr r e).1; omega, fun h => by rw [(hr r e).2] at h; cases h⟩), (hgr.block _ (by omega) (hne _ (by omega))).trans hl, (hgr.block _ (by omega) (hne _ (by omega))).trans hk⟩
    case hY =>
      rintro j hj m X ⟨hi, hs, hl, hk⟩ _
      have hlt : w.heap.size + 1 < X.heap.size := (Array.getElem?_eq_some_iff.1 hl).1
      have hy := run_yield (P := Tryz.prog) (args := E[j]) hl (by show (E[j]).size = (R .ready none).params.size; rw [hR]; exact hE j hj)
      refine ⟨fn, _, assign, body, by rw [hR] at hy; exact hy, roundIn_of_wpIn hfn ?_⟩
      have hst : (R .ready none).state = .ready := by rw [hR]; rfl
      refine wpIn_mono (hround j hj m X hi hs) ?_
      rintro e a₁ w₁ h
      cases e with
      | normal =>
        obtain ⟨rfl, hb⟩ := h
        refine ⟨_, run_beginRound hl hst, ?_⟩
        obtain ⟨o2, ho2⟩ : ∃ o2, Obj.loop { R .ready none with state := .busy } = o2 := ⟨_, rfl⟩
        rw [ho2]
        have hp := grownBy_putObj' w₁ (w.heap.size + 1) o2
        have hl2 : (w₁.putObj (w.heap.size + 1) o2).heap[w.heap.size + 1]? = some o2 := World.putObj_heap_same hlt
        have hk2 : (w₁.putObj (w.heap.size + 1) o2).heap[w.heap.size]? = some (.deferred (some [])) := (World.putObj_heap_other (by omega)).trans hk
        have hkp : KeepsAt ks w₁ (w₁.putObj (w.heap.size + 1) o2) := keepsAt_putObj _ _ _ (fun h => by have := hks _ h; omega)
        have hsz : w₁.heap.size ≤ (w₁.putObj (w.heap.size + 1) o2).heap.size := hp.size
        refine wpIn_mono (hb _ hp) ?_
        rintro e a3 W3 h3
        cases e with
        | normal =>
          obtain ⟨⟨kd, kl⟩, hkk, hz, hnb, hi3⟩ := h3
          have hl3 := kl.trans hl2
          rw [← ho2] at hl3
          have hlt3 : w.heap.size + 1 < W3.heap.size := (Array.getElem?_eq_some_iff.1 hl3).1
          have hd3 := kd.trans hk2
          have hend := run_endRound (P := Tryz.prog) none hl3
          obtain ⟨o4, ho4⟩ : ∃ o4, o4 = Obj.loop (R .ready none) := ⟨_, rfl⟩
          have hp3 := grownBy_putObj' W3 (w.heap.size + 1) o4
          refine ⟨_, _, hend, .inl ⟨rfl, hnb, ⟨?_, ?_, ?_, ?_⟩, ?_, ?_⟩⟩
          · exact hI _ _ _ _ hi3 (grownBy_putObj' W3 (w.heap.size + 1) _) (fun r e => by injection e; omega)
          · exact Nat.le_trans (by omega) (grownBy_putObj' W3 (w.heap.size + 1) _).size
          · rw [World.putObj_heap_same hlt3, hR]; rfl
          · exact (World.putObj_heap_other (by omega)).trans hd3
          · exact (hkp.trans hkk).trans (keepsAt_putObj _ _ _ (fun h => by have := hks _ h; omega))
          · exact Nat.le_trans (Nat.le_trans hsz hz) (grownBy_putObj' W3 (w.heap.size + 1) _).size
        | ret =>
          obtain ⟨⟨kd, kl⟩, hi3⟩ := h3
          have hl3 := kl.trans hl2
          rw [← ho2] at hl3
          have hlt3 : w.heap.size + 1 < W3.heap.size := (Array.getElem?_eq_some_iff.1 hl3).1
          have hd3 := kd.trans hk2
          have hend := run_endRound (P := Tryz.prog) (some .ret) hl3
          refine ⟨_, _, hend, .inr ⟨rfl, ?_, ?_, ?_⟩⟩
          · exact hIx _ _ _ hi3 (grownBy_putObj' W3 (w.heap.size + 1) _) (fun r e => by injection e; omega)
          · rw [World.putObj_heap_same hlt3, hR]; rfl
          · exact (World.putObj_heap_other (by omega)).trans hd3
        | exit id => exact h3.elim
        | goto t => exact h3.elim
        | panic ch => exact h3.elim
        | outgrown => exact h3.elim
      | exit id => exact h.elim
      | goto t => exact h.elim
      | ret => exact h.elim
      | panic ch => exact h.elim
      | outgrown => exact h.elim
    case post =>
      rintro e W2 ⟨⟨v, rfl⟩, (⟨hi, hs, hl, hk⟩ | ⟨j, hi, hl, hk⟩)⟩
      · have hend := run_endLoop (P := Tryz.prog) hl (by rw [hR]; simp [jrec])
        have hpe : (R .ready none).pending = none := by rw [hR]; rfl
        rw [hpe] at hend
        have hlt : w.heap.size + 1 < W2.heap.size := (Array.getElem?_eq_some_iff.1 hl).1
        exact ⟨none, _, hend, hdone _ (hI _ _ _ _ hi (grownBy_putObj' W2 (w.heap.size + 1) _) (fun r e => by injection e; omega)) (Nat.le_trans hs (grownBy_putObj' W2 (w.heap.size + 1) _).size) ((World.putObj_heap_other (by omega)).trans hk)⟩
      · have hend := run_endLoop (P := Tryz.prog) hl (by rw [hR]; simp [jrec])
        have hpe : (R .done (some .ret)).pending = some .ret := by rw [hR]; rfl
        rw [hpe] at hend
        exact ⟨some .ret, _, hend, hstop _ (hIx _ _ _ hi (grownBy_putObj' W2 (w.heap.size + 1) _) (fun r e => by injection e; omega)) ((World.putObj_heap_other (by omega)).trans hk)⟩
end Go.Proofs.YtdnbnigebejgjaaGreatDoor
namespace Go.Proofs.YtdnbnigebejgjaaGreatDoor
open Go.RowKit Go.Shelf
attribute [local go_sem] Oper.semAt_some
theorem mx_ex (n : Nat) : ∃ M : (Nat → Prop) → Nat, ∀ R : Nat → Prop, (∃ j, j ≤ n ∧ R j) → M R ≤ n ∧ R (M R) ∧ ∀ j, j ≤ n → R j → j ≤ M R := by
  have key : ∀ R : Nat → Prop, ∃ m, (∃ j, j ≤ n ∧ R j) → m ≤ n ∧ R m ∧ ∀ j, j ≤ n → R j → j ≤ m := by
    intro R
    induction n with
    | zero => exact ⟨0, fun ⟨j, hj, hr⟩ => ⟨Nat.le_refl _, by rwa [show j = 0 by omega] at hr, fun j hj _ => by omega⟩⟩
    | succ n ih =>
      by_cases h : R (n + 1)
      · exact ⟨n + 1, fun _ => ⟨Nat.le_refl _, h, fun j hj _ => hj⟩⟩
      · obtain ⟨m, hm⟩ := ih
        refine ⟨m, fun ⟨j, hj, hr⟩ => ?_⟩
        have hj2 : j ≤ n := by
          by_cases e : j = n + 1
          · rw [e] at hr; exact (h hr).elim
          · omega
        obtain ⟨h1, h2, h3⟩ := hm ⟨j, hj2, hr⟩
        refine ⟨by omega, h2, fun i hi hri => ?_⟩
        by_cases e : i = n + 1
        · rw [e] at hri; exact (h hri).elim
        · exact h3 i (by omega) hri
  exact ⟨fun R => Classical.choose (key R), fun R h => Classical.choose_spec (key R) h⟩
/-- The numbers that Next leads to from a number on, as long as they are nodes. -/
def chn (L : List ND) : Nat → Int → List Int
  | 0, k => if k = -1 then [] else [k]
  | f + 1, k => if k = -1 then [] else if 0 ≤ k ∧ k < (L.length : Int) then k :: chn L f ((L.getD k.toNat (bare 0 .empty 0)).next) else [k]
def BadK (L : List ND) (F : Nat) (c : List Int) (j : Nat) : Prop := ¬ (0 ≤ c.getD j (-1) ∧ c.getD j (-1) < (L.length : Int) ∧ j < F)
theorem chn_none (L : List ND) (f : Nat) : chn L f (-1) = [] := by cases f <;> rfl
theorem chn_some {L : List ND} {f : Nat} {k : Int} (h : k ≠ -1) : ∃ r, chn L f k = k :: r := by
  cases f with
  | zero => exact ⟨[], by unfold chn; rw [if_neg h]⟩
  | succ f =>
    unfold chn
    rw [if_neg h]
    split
    · exact ⟨_, rfl⟩
    · exact ⟨[], rfl⟩
theorem chn_next {L : List ND} {f : Nat} {k : Int} (h1 : 0 ≤ k) (h2 : k < (L.length : Int)) : chn L (f + 1) k = k :: chn L f ((L.getD k.toNat (bare 0 .empty 0)).next) := by
  rw [chn, if_neg (by omega), if_pos ⟨h1, h2⟩]
theorem ndsC_at : ∀ (L : List ND) (i j : Nat) (hi : i < L.length), j < 9 → (ndsC L).getD (i * 9 + j) (.int .i64 0) = (ndC L[i]).getD j (.int .i64 0)
  | n :: L, 0, j, _, hj => by
    show (ndC n ++ ndsC L).getD (0 * 9 + j) _ = (ndC n).getD j _
    rw [Nat.zero_mul, Nat.zero_add, List.getD_eq_getElem?_getD, List.getElem?_append_left (by show j < 9; exact hj), List.getD_eq_getElem?_getD]
  | n :: L, i + 1, j, hi, hj => by
    show (ndC n ++ ndsC L).getD ((i + 1) * 9 + j) _ = (ndC (L[i]'(by simpa using hi))).getD j _
    rw [List.getD_eq_getElem?_getD, List.getElem?_append_right (by show 9 ≤ _; omega), show (i + 1) * 9 + j - (ndC n).length = i * 9 + j by show (i + 1) * 9 + j - 9 = _; omega, ← List.getD_eq_getElem?_getD]
    exact ndsC_at L i j (by simpa using hi) hj
/-- The cells of node i. -/
theorem nd_cells {w : World} {b off : Nat} {L : List ND} (h : NdsIn w (some ⟨b, off, none⟩) L) {i : Nat} (hi : i < L.length) (j : Nat) (hj : j < 9) : w.cell? ⟨b, off + i * 9 + j, none⟩ = some ((ndC L[i]).getD j (.int .i64 0)) := by
  have := h.cell (i * 9 + j) (by omega)
  rw [ndsC_at L i j hi hj, ← Nat.add_assoc] at this
  exact this
theorem nds_place {w : World} {p : Option Addr} {L : List ND} (h : NdsIn w p L) (hi : 0 < L.length) : ∃ b off, p = some ⟨b, off, none⟩ ∧ b < w.heap.size := by
  obtain ⟨b, off, e, h1, _⟩ := h 0 (by omega)
  exact ⟨b, off, e, h1⟩
theorem NdsIn.keeps {w w' : World} {b off : Nat} {L : List ND} {ks : Nat → Prop} (h : NdsIn w (some ⟨b, off, none⟩) L) (hk : KeepsAt ks w w') (hb : ks b) (hs : w.heap.size ≤ w'.heap.size) : NdsIn w' (some ⟨b, off, none⟩) L := fun j hj => by
  obtain ⟨b', off', e, h1, h2⟩ := h j hj
  injection e with e
  injection e with e1 e2
  subst e1 e2
  exact ⟨b, off, rfl, by omega, (hk.cell (p := ⟨b, off + j, none⟩) hb).trans h2⟩
theorem children_any (p : Option Addr) (n c : Nat) (k : Int) (W : World) :
    Calls Tryz.prog 46 #[.slice p n c, .int .i64 k] W fun e w' => e = .returned (.func (.func 66) #[] #[.pointer (some ⟨W.heap.size, 0, none⟩), .pointer (some ⟨W.heap.size + 1, 0, none⟩)]) ∧ w' = (W.alloc (.cells #[.slice p n c] 23)).alloc (.cells #[.int .i64 k] 3) := by
  go_enter Tryz.func46, Tryz.ntmps46
  go_wp2
  go_ret
  exact ⟨rfl, rfl⟩
theorem CBlk.cell1 {t : TypeId} {w : World} {B : Nat} {a : Value} (h : CBlk t w B [a]) : w.cell? ⟨B, 0, none⟩ = some a := h.cell 0 (by simp)
theorem CBlk.keeps {t : TypeId} {w w' : World} {B : Nat} {cs : List Value} {ks : Nat → Prop} (h : CBlk t w B cs) (hk : KeepsAt ks w w') (hb : ks B) : CBlk t w' B cs := (hk B hb).trans h
/-- The values that the iterator hands on. -/
def intE (c : List Int) : List (Array Value) := c.map fun k => #[.int .i64 k]
set_option maxHeartbeats 4000000 in
set_option maxRecDepth 100000 in
theorem children_iter (L : List ND) (F : Nat) (at_ : Nat) (hat : at_ < L.length) (b off cap b1 b2 : Nat) (ks : Nat → Prop) (w0 : World) (hN : NdsIn w0 (some ⟨b, off, none⟩) L) (h1 : CBlk 23 w0 b1 [.slice (some ⟨b, off, none⟩) L.length cap]) (h2 : CBlk 3 w0 b2 [.int .i64 (at_ : Int)]) (hk : ks b) (hk1 : ks b1) (_ : ks b2) :
    IterL false 66 #[.pointer (some ⟨b1, 0, none⟩), .pointer (some ⟨b2, 0, none⟩)] (intE (chn L F (L[at_]).first)) (BadK L F (chn L F (L[at_]).first)) ks w0 := by
  intro n lp J Jx W hW _ _ hY h0
  obtain ⟨c, hc⟩ : ∃ c, chn L F (L[at_]).first = c := ⟨_, rfl⟩
  rw [hc] at hY ⊢
  obtain ⟨M, hM⟩ := mx_ex c.length
  have hlen : (intE c).length = c.length := by unfold intE; rw [List.length_map]
  obtain ⟨Rel, hRel⟩ : ∃ Rel : Nat → Value → World → Prop, Rel = fun j p wr => ∃ (f : Nat) (k : Int), p = .int .i64 k ∧ j + f = F ∧ chn L f k = c.drop j ∧ J j wr ∧ KeepsAt ks W wr ∧ W.heap.size ≤ wr.heap.size := ⟨_, rfl⟩
  have w1 := h1.below hW h1.lt
  have w2 := h2.below hW h2.lt
  have wN : NdsIn W (some ⟨b, off, none⟩) L := CellsIn.below hN hW (Nat.le_refl _)
  have c1 := w1.cell1
  have c2 := w2.cell1
  have c3 := nd_cells wN hat 7 (by omega)
  have hb1 : (at_ : Int) < (L.length : Int) := by omega
  obtain ⟨x0, hx0⟩ : ∃ x, (L[at_]).first = x := ⟨_, rfl⟩
  have hc7 : (ndC L[at_]).getD 7 (.int .i64 0) = .int .i64 x0 := by rw [← hx0]; rfl
  rw [hc7] at c3
  rw [hx0] at hc
  clear hc7 hx0
  have HY := Lib.hid hY
  have HM := Lib.hid hM
  have HC := Lib.hid hc
  clear hY hM
  refine callsIn_of_wp Tryz.func66 rfl trivial ?_ rfl
  simp only [Tryz.ntmps66, List.size_toArray, List.length_cons, List.length_nil, Nat.reduceAdd, Nat.reduceSub, Array.replicate_succ, Array.replicate_zero, List.push_toArray, List.append_toArray, List.nil_append, List.cons_append]
  gi_wp2
  gi_loopw [4] (fun p wr => ∃ j, j ≤ c.length ∧ Rel j p wr) (fun p wr => c.length - M (fun j => Rel j p wr))
  case atStart =>
    refine ⟨0, Nat.zero_le _, ?_⟩
    rw [hRel]
    exact ⟨F, _, rfl, by omega, by rw [List.drop_zero]; exact HC.out, h0, KeepsAt.refl _ _, Nat.le_refl _⟩
  case round =>
    obtain ⟨m, hm⟩ : ∃ m, M (fun j => Rel j u4 wr) = m := ⟨_, rfl⟩
    obtain ⟨x1, x2, x3⟩ := HM.out (fun j => Rel j u4 wr) hrel
    rw [hm] at x1 x2 x3
    have hm' := Lib.hid hm
    clear hm hrel
    have hR2 := x2
    rw [hRel] at hR2
    obtain ⟨f, k, rfl, hf, hch, hJ, hK, hz⟩ := hR2
    by_cases hk0 : k = -1
    · subst hk0
      rw [chn_none] at hch
      have hmc : m = c.length := by
        have := congrArg List.length hch
        rw [List.length_drop, List.length_nil] at this
        omega
      clear x2 x3 hch
      gi_wp2
      go_end0
      exact ⟨⟨_, rfl⟩, .inl (by rw [hlen, ← hmc]; exact hJ)⟩
    · have t1 : (k == -1) = false := by simpa using hk0
      have t2 : (k != -1) = true := by simpa using hk0
      obtain ⟨r, hr⟩ := chn_some (L := L) (f := f) hk0
      have hlt : m < c.length := by
        have := congrArg List.length (hr.symm.trans hch)
        rw [List.length_drop, List.length_cons] at this
        omega
      have hcm : c[m] = k := by
        have := hr.symm.trans hch
        rw [List.drop_eq_getElem_cons hlt] at this
        injection this with h1 _
        exact h1.symm
      have hgd : c.getD m (-1) = k := by rw [List.getD_eq_getElem?_getD, List.getElem?_eq_getElem hlt, hcm]; rfl
      obtain ⟨fn, tmps, assign, body, hy, hR⟩ := HY.out m (by rw [hlen]; exact hlt) (n - 1) wr hJ hz
      rw [show (intE c)[m]'(by rw [hlen]; exact hlt) = #[.int .i64 k] by unfold intE; rw [List.getElem_map, hcm]] at hy
      have hR' := Lib.hid hR
      have X3 := Lib.hid x3
      have hch' := Lib.hid hch
      have HKK := Lib.hid hK
      clear x2 x3 hr hcm hR hch hK
      gi_wp2
      refine ⟨(fun h => by cases h), hR'.out.mono ?_⟩
      rintro e W3 (⟨rfl, hnb, hJ3, hk3, hz3⟩ | ⟨rfl, hJx3⟩)
      · unfold BadK at hnb
        rw [hgd] at hnb
        obtain ⟨y1, y2, y3⟩ := Classical.not_not.1 hnb
        obtain ⟨f', rfl⟩ : ∃ f', f = f' + 1 := ⟨f - 1, by omega⟩
        obtain ⟨i, rfl⟩ := Int.eq_ofNat_of_zero_le y1
        have hi : i < L.length := by omega
        have hch2 := hch'.out
        rw [chn_next y1 y2, Int.toNat_natCast] at hch2
        have hgi : L.getD i (bare 0 .empty 0) = L[i] := by rw [List.getD_eq_getElem?_getD, List.getElem?_eq_getElem hi]; rfl
        rw [hgi, List.drop_eq_getElem_cons hlt] at hch2
        have hch3 := (List.cons.inj hch2).2
        clear hch2
        have hKK := HKK.out.trans hk3
        have hzz := Nat.le_trans hz hz3
        have w1' := CBlk.keeps w1 hKK hk1
        have wN' := wN.keeps hKK hk hzz
        have c1' := w1'.cell1
        have c3' := nd_cells wN' hi 8 (by omega)
        have hHC := Lib.hid hch3
        have HJ3 := Lib.hid hJ3
        have HK3 := Lib.hid hKK
        clear hch3 hJ3 hnb hgd hgi hKK hk3 hJ hch' HKK w1' wN'
        obtain ⟨x, hx⟩ : ∃ x, (L[i]).next = x := ⟨_, rfl⟩
        have hc3 : (ndC L[i]).getD 8 (.int .i64 0) = .int .i64 x := by rw [← hx]; rfl
        rw [hc3] at c3'
        rw [hx] at hHC
        clear hc3 hx
        have hnew : Rel (m + 1) (.int .i64 x) W3 := by
          rw [hRel]
          exact ⟨f', x, rfl, by omega, hHC.out, HJ3.out, HK3.out, hzz⟩
        have HNEW := Lib.hid hnew
        clear hnew
        gi_wp2
        go_roundw
        case rel => exact ⟨m + 1, hlt, HNEW.out⟩
        case measure =>
          have e1 := (HM.out (fun j => Rel j (.int .i64 x) W3) ⟨m + 1, hlt, HNEW.out⟩).2.2 (m + 1) hlt HNEW.out
          have e2 := hm'.out
          omega
      · gi_wp2
        refine bodyPost_ret (results_none rfl _ _ _) rfl ?_
        exact ⟨⟨_, rfl⟩, .inr ⟨_, hJx3⟩⟩
end Go.Proofs.YtdnbnigebejgjaaGreatDoor
namespace Go.Proofs.YtdnbnigebejgjaaGreatDoor
open Go.RowKit
/-- Has a node what nodes of its kind have, and nothing else? -/
def sndB (n : ND) : Bool :=
  if n.kind = 1 then decide (n.first = -1) && decide (n.group = 0) && !(n.set.isNone) && decide (0 ≤ n.times) && decide (n.times ≤ 3)
  else if n.kind = 2 then decide (n.times = 0) && n.set.isNone && decide (n.group = 0)
  else if n.kind = 3 then decide (n.times = 0) && n.set.isNone && decide (n.group = 0) && decide (n.first ≠ -1) && decide (n.next = -1)
  else if n.kind = 4 then decide (n.first ≠ -1) && n.set.isNone && (decide (n.times = 0) || decide (n.times = 3))
  else false
/-- May a node of one kind have a child of another? -/
def mayB (a b : Int) : Bool := if a = 3 then decide (b = 2) else if a = 2 then decide (b = 1) || decide (b = 4) else decide (b = 3)
/-- What is behind the children from a number on, if they are all right. -/
def kl (L : List ND) : Nat → Int → Nat → Int → Option Nat
  | 0, _, nx, k => if k = -1 then some nx else none
  | f + 1, kd, nx, k =>
    if k = -1 then some nx
    else if h : nx < L.length then
      if k = (nx : Int) ∧ mayB kd L[nx].kind = true ∧ sndB L[nx] = true then
        match kl L f L[nx].kind (nx + 1) L[nx].first with
        | none => none
        | some k2 => kl L f kd k2 L[nx].next
      else none
    else none
def beh (L : List ND) (f at_ : Nat) : Option Nat := if h : at_ < L.length then (if sndB L[at_] = true then kl L f L[at_].kind (at_ + 1) L[at_].first else none) else none
def optI : Option Nat → Int
  | none => -1
  | some k => (k : Int)
theorem kl_ge (L : List ND) : ∀ (f : Nat) (kd : Int) (nx : Nat) (k : Int) (e : Nat), kl L f kd nx k = some e → nx ≤ e ∧ (nx ≤ L.length → e ≤ L.length)
  | 0, kd, nx, k, e, h => by
    unfold kl at h
    split at h
    · injection h with h; omega
    · cases h
  | f + 1, kd, nx, k, e, h => by
    unfold kl at h
    split at h
    · injection h with h; omega
    · split at h
      · split at h
        · split at h
          · cases h
          · rename_i k2 hk2
            have h1 := kl_ge L f _ _ _ _ hk2
            have h2 := kl_ge L f _ _ _ _ h
            omega
        · cases h
      · cases h
theorem mayHold_any (a b : Int) (w : World) : Calls Tryz.prog 88 #[.int .i64 a, .int .i64 b] w fun e w' => e = .returned (.bool (mayB a b)) ∧ w' = w := by
  unfold mayB
  by_cases h3 : a = 3
  · subst h3
    have HB : Hid ((if (3 : Int) = 3 then decide (b = 2) else if (3 : Int) = 2 then decide (b = 1) || decide (b = 4) else decide (b = 3)) = decide (b = 2)) := Lib.hid (if_pos rfl)
    rw [HB.out]
    obtain ⟨q, hq⟩ : ∃ q, decide (b = 2) = q := ⟨_, rfl⟩
    have hq2 : (b == 2) = q := by rw [← hq]; rfl
    rw [hq]
    clear hq HB
    go_enter Tryz.func88, Tryz.ntmps88
    go_wp2
    go_ret
    exact ⟨rfl, rfl⟩
  · have a3 : (a == 3) = false := by simpa using h3
    rw [if_neg h3]
    by_cases h2 : a = 2
    · subst h2
      rw [if_pos rfl]
      obtain ⟨q, hq⟩ : ∃ q, decide (b = 1) = q := ⟨_, rfl⟩
      obtain ⟨r, hr⟩ : ∃ q, decide (b = 4) = q := ⟨_, rfl⟩
      have hq2 : (b == 1) = q := by rw [← hq]; rfl
      have hr2 : (b == 4) = r := by rw [← hr]; rfl
      rw [hq, hr]
      clear hq hr h3
      cases q with
      | true =>
        go_enter Tryz.func88, Tryz.ntmps88
        go_wp2
        go_ret
        exact ⟨rfl, rfl⟩
      | false =>
        go_enter Tryz.func88, Tryz.ntmps88
        go_wp2
        go_ret
        exact ⟨rfl, rfl⟩
    · have a2 : (a == 2) = false := by simpa using h2
      rw [if_neg h2]
      obtain ⟨q, hq⟩ : ∃ q, decide (b = 3) = q := ⟨_, rfl⟩
      have hq2 : (b == 3) = q := by rw [← hq]; rfl
      rw [hq]
      clear hq h3 h2
      go_enter Tryz.func88, Tryz.ntmps88
      go_wp2
      go_ret
      exact ⟨rfl, rfl⟩
end Go.Proofs.YtdnbnigebejgjaaGreatDoor
