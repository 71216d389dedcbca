/-
  The program's One.
-/
import Derived.Test.YtfagjhadfonhdaaLQFeed
namespace Go.Proofs.Ytfagjhadfonhdaa
open Go.RowKit Go.Shelf
attribute [local go_sem] Oper.semAt_some
/-- The deferred call of One: the splitter becomes the machine's. -/
theorem oneD_any (n : Nat) (Mb Nx B bc cap k : Nat) (lim : Int) (S C : List UInt8) (g : Bool) (a b c : Value) (u : FrameMode) (w : World)
    (hmb : CBlk 54 w Mb [.pointer (some ⟨B, 0, none⟩)]) (hm : CBlk 59 w B (mC lim S g bc C cap k)) (hx : CBlk 24 w Nx [a, b, c]) :
    CallsDIn Fence.wide n Try.prog 33 #[.pointer (some ⟨Mb, 0, none⟩), .pointer (some ⟨Nx, 0, none⟩)] u w fun e u' w' => u' = u ∧ (e = .returned (.tuple #[]) ∧ w' = ((w.setCell ⟨Nx, 0, none⟩ (.int .i64 lim)).setCell ⟨Nx, 1, none⟩ (.string ⟨S.toArray⟩)).setCell ⟨Nx, 2, none⟩ (.bool g)) := by
  have c0 := hmb.cell1
  obtain ⟨m0, m1, m2, -, -⟩ := (show CBlk 59 w B [.int .i64 lim, .string ⟨S.toArray⟩, .bool g, .slice (some ⟨bc, 0, none⟩) C.length cap, .int .i64 (k : Int)] from hm).cells5
  obtain ⟨x0, x1, x2⟩ := hx.cells3
  have f0 := hx.free 0
  have f1 := hx.free 1
  have f2 := hx.free 2
  refine callsDIn_of_wp Try.func33 rfl trivial ?_
  simp only [Try.ntmps33, List.size_toArray, List.length_cons, List.length_nil, Nat.reduceAdd, Nat.reduceSub, Array.replicate_succ, Array.replicate_zero, List.push_toArray, List.append_toArray, List.nil_append, List.cons_append]
  gi_wp2
  go_end0
  exact ⟨rfl, rfl⟩
/-- The five results of One in memory. -/
structure OneR (w : World) (N : Nat) (a b c d f s i e : Value) : Prop where
  r1 : CBlk 24 w N [a, b, c]
  r2 : CBlk 27 w (N + 1) [d, f]
  r3 : CBlk 9 w (N + 1 + 1) [s]
  r4 : CBlk 4 w (N + 1 + 1 + 1) [i]
  r5 : CBlk 29 w (N + 1 + 1 + 1 + 1) [e]
theorem one7_results {w : World} {N : Nat} {a b c d f s i e : Value} (h1 : OneR w N a b c d f s i e) {fn : Func} {p q r t u : Tmp} (h : fn.results = #[.cell p 24, .cell q 27, .cell r 9, .cell t 4, .cell u 29]) (tmps : Array Value)
    (hp : tmps.getD p undef = .pointer (some ⟨N, 0, none⟩)) (hq : tmps.getD q undef = .pointer (some ⟨N + 1, 0, none⟩)) (hr : tmps.getD r undef = .pointer (some ⟨N + 1 + 1, 0, none⟩)) (ht : tmps.getD t undef = .pointer (some ⟨N + 1 + 1 + 1, 0, none⟩)) (hu : tmps.getD u undef = .pointer (some ⟨N + 1 + 1 + 1 + 1, 0, none⟩)) :
    (Go.results fn tmps).run Try.prog w = .ok (.tuple #[.agg #[a, b, c], .agg #[d, f], s, i, e]) w := by
  have hp' : tmps[p]?.getD undef = .pointer (some ⟨N, 0, none⟩) := by simpa using hp
  have hq' : tmps[q]?.getD undef = .pointer (some ⟨N + 1, 0, none⟩) := by simpa using hq
  have hr' : tmps[r]?.getD undef = .pointer (some ⟨N + 1 + 1, 0, none⟩) := by simpa using hr
  have ht' : tmps[t]?.getD undef = .pointer (some ⟨N + 1 + 1 + 1, 0, none⟩) := by simpa using ht
  have hu' : tmps[u]?.getD undef = .pointer (some ⟨N + 1 + 1 + 1 + 1, 0, none⟩) := by simpa using hu
  obtain ⟨c0, c1, c2⟩ := h1.r1.cells3
  obtain ⟨d0, d1⟩ := h1.r2.cells2
  have s0 := h1.r3.cell1
  have i0 := h1.r4.cell1
  have e0 := h1.r5.cell1
  simp [Go.results, h, hp', hq', hr', ht', hu', asAddr, go_sem, c0, c1, c2, d0, d1, s0, i0, e0]
theorem OneR.kept {w w' : World} {N : Nat} {a b c d f s i e : Value} (h : OneR w N a b c d f s i e) {row : Option Nat} (hg : w.grownBy w' row) (hr : ∀ r, row = some r → N + 1 + 1 + 1 + 1 < r) : OneR w' N a b c d f s i e :=
  ⟨h.r1.kept hg (fun e => by have := hr _ e.symm; omega), h.r2.kept hg (fun e => by have := hr _ e.symm; omega), h.r3.kept hg (fun e => by have := hr _ e.symm; omega), h.r4.kept hg (fun e => by have := hr _ e.symm; omega), h.r5.kept hg (fun e => by have := hr _ e.symm; omega)⟩
theorem OneR.below {w w' : World} {n N : Nat} {a b c d f s i e : Value} (h : OneR w N a b c d f s i e) (hb : Below n w w') (hn : N + 1 + 1 + 1 + 1 < n) : OneR w' N a b c d f s i e :=
  ⟨h.r1.below hb (by omega), h.r2.below hb (by omega), h.r3.below hb (by omega), h.r4.below hb (by omega), h.r5.below hb (by omega)⟩
theorem OneR.alloc {w : World} {N : Nat} {a b c d f s i e : Value} (h : OneR w N a b c d f s i e) (o : Obj) : OneR (w.alloc o) N a b c d f s i e :=
  ⟨h.r1.alloc o, h.r2.alloc o, h.r3.alloc o, h.r4.alloc o, h.r5.alloc o⟩
theorem OneR.drew {w : World} {N : Nat} {a b c d f s i e : Value} (h : OneR w N a b c d f s i e) : OneR w.drew N a b c d f s i e := ⟨h.r1, h.r2, h.r3, h.r4, h.r5⟩
/-- All five results are stored. -/
def oneSt (w : World) (N : Nat) (a b c d f s i e : Value) : World :=
  (((((((w.setCell ⟨N, 0, none⟩ a).setCell ⟨N, 1, none⟩ b).setCell ⟨N, 2, none⟩ c).setCell ⟨N + 1, 0, none⟩ d).setCell ⟨N + 1, 1, none⟩ f).setCell ⟨N + 1 + 1, 0, none⟩ s).setCell ⟨N + 1 + 1 + 1, 0, none⟩ i).setCell ⟨N + 1 + 1 + 1 + 1, 0, none⟩ e
theorem OneR.stored {w : World} {N : Nat} {a b c d f s i e : Value} (h : OneR w N a b c d f s i e) (a' b' c' d' f' s' i' e' : Value) : OneR (oneSt w N a' b' c' d' f' s' i' e') N a' b' c' d' f' s' i' e' := by
  unfold oneSt
  refine ⟨?_, ?_, ?_, ?_, ?_⟩
  · exact (((((h.r1.store3 rfl _ _ _).other ⟨N + 1, 0, none⟩ (by dsimp only; omega) _).other ⟨N + 1, 1, none⟩ (by dsimp only; omega) _).other ⟨N + 1 + 1, 0, none⟩ (by dsimp only; omega) _).other ⟨N + 1 + 1 + 1, 0, none⟩ (by dsimp only; omega) _).other ⟨N + 1 + 1 + 1 + 1, 0, none⟩ (by dsimp only; omega) _
  · exact ((((((h.r2.other ⟨N, 0, none⟩ (by dsimp only; omega) _).other ⟨N, 1, none⟩ (by dsimp only; omega) _).other ⟨N, 2, none⟩ (by dsimp only; omega) _).store2 rfl _ _).other ⟨N + 1 + 1, 0, none⟩ (by dsimp only; omega) _).other ⟨N + 1 + 1 + 1, 0, none⟩ (by dsimp only; omega) _).other ⟨N + 1 + 1 + 1 + 1, 0, none⟩ (by dsimp only; omega) _
  · exact (((((((h.r3.other ⟨N, 0, none⟩ (by dsimp only; omega) _).other ⟨N, 1, none⟩ (by dsimp only; omega) _).other ⟨N, 2, none⟩ (by dsimp only; omega) _).other ⟨N + 1, 0, none⟩ (by dsimp only; omega) _).other ⟨N + 1, 1, none⟩ (by dsimp only; omega) _).set 0 s').other ⟨N + 1 + 1 + 1, 0, none⟩ (by dsimp only; omega) _).other ⟨N + 1 + 1 + 1 + 1, 0, none⟩ (by dsimp only; omega) _
  · exact (((((((h.r4.other ⟨N, 0, none⟩ (by dsimp only; omega) _).other ⟨N, 1, none⟩ (by dsimp only; omega) _).other ⟨N, 2, none⟩ (by dsimp only; omega) _).other ⟨N + 1, 0, none⟩ (by dsimp only; omega) _).other ⟨N + 1, 1, none⟩ (by dsimp only; omega) _).other ⟨N + 1 + 1, 0, none⟩ (by dsimp only; omega) _).set 0 i').other ⟨N + 1 + 1 + 1 + 1, 0, none⟩ (by dsimp only; omega) _
  · exact (((((((h.r5.other ⟨N, 0, none⟩ (by dsimp only; omega) _).other ⟨N, 1, none⟩ (by dsimp only; omega) _).other ⟨N, 2, none⟩ (by dsimp only; omega) _).other ⟨N + 1, 0, none⟩ (by dsimp only; omega) _).other ⟨N + 1, 1, none⟩ (by dsimp only; omega) _).other ⟨N + 1 + 1, 0, none⟩ (by dsimp only; omega) _).other ⟨N + 1 + 1 + 1, 0, none⟩ (by dsimp only; omega) _).set 0 e'
theorem oneSt_other (w : World) (N : Nat) (a b c d f s i e : Value) (q : Nat) (hq : q < N ∨ N + 1 + 1 + 1 + 1 < q) : (oneSt w N a b c d f s i e).heap[q]? = w.heap[q]? := by
  unfold oneSt
  exact (Below.heap_setCell _ _ _ _ (by show q ≠ N + 1 + 1 + 1 + 1; omega)).trans ((Below.heap_setCell _ _ _ _ (by show q ≠ N + 1 + 1 + 1; omega)).trans ((Below.heap_setCell _ _ _ _ (by show q ≠ N + 1 + 1; omega)).trans ((Below.heap_setCell _ _ _ _ (by show q ≠ N + 1; omega)).trans ((Below.heap_setCell _ _ _ _ (by show q ≠ N + 1; omega)).trans ((Below.heap_setCell _ _ _ _ (by show q ≠ N; omega)).trans ((Below.heap_setCell _ _ _ _ (by show q ≠ N; omega)).trans (Below.heap_setCell _ _ _ _ (by show q ≠ N; omega))))))))
theorem oneSt_size (w : World) (N : Nat) (a b c d f s i e : Value) : (oneSt w N a b c d f s i e).heap.size = w.heap.size := by unfold oneSt; simp
theorem oneSt_below {w0 w : World} {n N : Nat} (h : Below n w0 w) (hn : n ≤ N) (a b c d f s i e : Value) : Below n w0 (oneSt w N a b c d f s i e) := by
  unfold oneSt
  exact ((((((below_store3 h hn a b c).setCell (p := ⟨N + 1, 0, none⟩) (by show n ≤ N + 1; omega) d).setCell (p := ⟨N + 1, 1, none⟩) (by show n ≤ N + 1; omega) f).setCell (p := ⟨N + 1 + 1, 0, none⟩) (by show n ≤ N + 1 + 1; omega) s).setCell (p := ⟨N + 1 + 1 + 1, 0, none⟩) (by show n ≤ N + 1 + 1 + 1; omega) i)).setCell (p := ⟨N + 1 + 1 + 1 + 1, 0, none⟩) (by show n ≤ N + 1 + 1 + 1 + 1; omega) e
theorem oneL_none (n : Int) : ∀ (c t : List UInt8), (oneL n t c).2.2.2 = false → (oneL n t c).2 = (zeroL, [], false)
  | [], t, _ => rfl
  | c :: r, t, h => by
    rw [show oneL n t (c :: r) = if c.toNat = 10 then (⟨n, [], false⟩, lineR t, r, true) else if (t.length : Int) = n then (⟨n, [], true⟩, ⟨[], false⟩, [], false) else oneL n (t ++ [c]) r from rfl] at h ⊢
    by_cases h1 : c.toNat = 10
    · rw [if_pos h1] at h
      simp at h
    · rw [if_neg h1] at h ⊢
      by_cases h2 : (t.length : Int) = n
      · rw [if_pos h2]
        rfl
      · rw [if_neg h2] at h ⊢
        exact oneL_none n r (t ++ [c]) h
/-- What the first line of all tells of the next one. -/
theorem feedX_first {n : Int} {t c : List UInt8} {x : XL} {rest : List XL} (h : x :: rest = feedX n 0 t c) : oneL n t c = (⟨n, [], false⟩, x.2, c.drop x.1, true) ∧ x.1 ≤ c.length := by
  cases hi : (oneL n t c).2.2.2 with
  | false =>
    rw [(one_feedX n c t 0).2 hi] at h
    cases h
  | true =>
    rw [(one_feedX n c t 0).1 hi] at h
    injection h with h1 _
    obtain ⟨d, hd, d1, d2⟩ := oneL_rest n c t hi
    have hs := ((one_feed n c t).1 hi).1
    have hl : (oneL n t c).2.2.1.length = c.length - d := by rw [hd, List.length_drop]
    have hx1 : x.1 = d := by rw [h1, hl]; dsimp only; omega
    have hx2 : x.2 = (oneL n t c).2.1 := by rw [h1]
    refine ⟨?_, by omega⟩
    rw [hx1, hx2, ← hd, ← hi]
    obtain ⟨⟨a, b, e⟩, o⟩ : ∃ p : Sp × (Ln × List UInt8 × Bool), p = oneL n t c := ⟨_, rfl⟩
    exact Prod.ext hs rfl
theorem feedX_nil {n : Int} {t c : List UInt8} (h : feedX n 0 t c = []) : oneL n t c = ((feedL n t c).1, zeroL, [], false) := by
  cases hi : (oneL n t c).2.2.2 with
  | true =>
    rw [(one_feedX n c t 0).1 hi] at h
    cases h
  | false =>
    have h1 := oneL_none n c t hi
    have h2 := (one_feed n c t).2 hi
    refine Prod.ext ?_ h1
    rw [h2]
/-- Memory of One: what is ahead of the loop, the results. -/
structure OM (w w4 W : World) (Mb B : Nat) (C : List UInt8) (a b c d f s i e : Value) : Prop where
  r : OneR W (w.heap.size + 1 + 1) a b c d f s i e
  ch : CBlk 9 W (w.heap.size + 1) [.string ⟨C.toArray⟩]
  bm : CBlk 54 W Mb [.pointer (some ⟨B, 0, none⟩)]
  bel : Below w.heap.size w W
  sz : w4.heap.size ≤ W.heap.size
theorem OM.kept {w w4 W W' : World} {Mb B : Nat} {C : List UInt8} {a b c d f s i e : Value} (h : OM w w4 W Mb B C a b c d f s i e) {r : Nat} (hg : W.grownBy W' (some r)) (h1 : w.heap.size + 6 < r) (h2 : Mb ≠ r) : OM w w4 W' Mb B C a b c d f s i e :=
  ⟨h.r.kept hg (fun k e => by injection e; omega), h.ch.kept hg (fun e => by injection e; omega), h.bm.kept hg (fun e => h2 (by injection e)), below_grownR h.bel h.bel.size hg (fun k hk => by injection hk; omega), Nat.le_trans h.sz hg.size⟩
theorem OM.alloc {w w4 W : World} {Mb B : Nat} {C : List UInt8} {a b c d f s i e : Value} (h : OM w w4 W Mb B C a b c d f s i e) (o : Obj) : OM w w4 (W.alloc o) Mb B C a b c d f s i e :=
  ⟨h.r.alloc o, h.ch.alloc o, h.bm.alloc o, h.bel.alloc h.bel.size o, Nat.le_trans h.sz (by simp)⟩
theorem OM.stored {w w4 W : World} {Mb B : Nat} {C : List UInt8} {a b c d f s i e : Value} (h : OM w w4 W Mb B C a b c d f s i e) (hm : w.heap.size + 6 < Mb) (a' b' c' d' f' s' i' e' : Value) : OM w w4 (oneSt W (w.heap.size + 1 + 1) a' b' c' d' f' s' i' e') Mb B C a' b' c' d' f' s' i' e' :=
  ⟨h.r.stored a' b' c' d' f' s' i' e', (oneSt_other _ _ _ _ _ _ _ _ _ _ _ (by omega)).trans h.ch, (oneSt_other _ _ _ _ _ _ _ _ _ _ _ (by omega)).trans h.bm, oneSt_below h.bel (by omega) _ _ _ _ _ _ _ _, by rw [oneSt_size]; exact h.sz⟩
theorem OM.below {w w4 W W' : World} {Mb B : Nat} {C : List UInt8} {a b c d f s i e : Value} (h : OM w w4 W Mb B C a b c d f s i e) (hb : Below W.heap.size W W') : OM w w4 W' Mb B C a b c d f s i e :=
  ⟨h.r.below hb (by have := h.r.r5.lt; omega), h.ch.below hb h.ch.lt, h.bm.below hb h.bm.lt, h.bel.trans (hb.mono h.bel.size), Nat.le_trans h.sz hb.size⟩
theorem OM.drew {w w4 W : World} {Mb B : Nat} {C : List UInt8} {a b c d f s i e : Value} (h : OM w w4 W Mb B C a b c d f s i e) : OM w w4 W.drew Mb B C a b c d f s i e := ⟨h.r.drew, h.ch, h.bm, h.bel.drew, h.sz⟩
set_option maxRecDepth 100000 in
set_option maxHeartbeats 4000000 in
/-- The way out of One: the machine's splitter becomes the result. -/
theorem one_door {w w4 W5 : World} {Mb B bc cap k : Nat} {lim : Int} {S C : List UInt8} {lg : Bool} {a b c d f s i e : Value} (V : Value) (tmps : Array Value)
    (hF : OM w w4 W5 Mb B C a b c d f s i e) (hM : CBlk 59 W5 B (mC lim S lg bc C cap k)) (hD : W5.heap[w4.heap.size]? = some (.deferred (some [])))
    (h1 : w.heap.size + 6 < B) (h2 : B < w4.heap.size) (h3 : Mb < w4.heap.size)
    (hV : V = .tuple #[.agg #[.int .i64 lim, .string ⟨S.toArray⟩, .bool lg], .agg #[d, f], s, i, e])
    (t4 : tmps.getD 4 undef = .pointer (some ⟨w.heap.size + 1 + 1, 0, none⟩)) (t5 : tmps.getD 5 undef = .pointer (some ⟨w.heap.size + 1 + 1 + 1, 0, none⟩)) (t6 : tmps.getD 6 undef = .pointer (some ⟨w.heap.size + 1 + 1 + 1 + 1, 0, none⟩)) (t7 : tmps.getD 7 undef = .pointer (some ⟨w.heap.size + 1 + 1 + 1 + 1 + 1, 0, none⟩)) (t8 : tmps.getD 8 undef = .pointer (some ⟨w.heap.size + 1 + 1 + 1 + 1 + 1 + 1, 0, none⟩)) :
    LeavesInM Fence.wide 5 Try.prog Try.f13 tmps (fun e w' => e = .returned V ∧ Below w.heap.size w w')
      [{ target := .collected w4.heap.size, args := #[] }, { target := .fn (.func 33) #[.pointer (some ⟨Mb, 0, none⟩), .pointer (some ⟨w.heap.size + 1 + 1, 0, none⟩)], args := #[] }] .returning W5 := by
  subst hV
  have hgp := grownBy_putObj' W5 w4.heap.size (.deferred none)
  refine ⟨by simp, .inl ⟨_, _, rfl, run_takeDeferred hD, ?_⟩⟩
  refine ⟨by simp, .inr ⟨fun _ => by omega, _, _, 33, #[.pointer (some ⟨Mb, 0, none⟩), .pointer (some ⟨w.heap.size + 1 + 1, 0, none⟩)], rfl, ?_, ?_, ?_⟩⟩
  · simp [invoke, go_sem]
  · intro _ _
    trivial
  · have hO := hF.kept hgp (by omega) (by omega)
    refine (oneD_any _ Mb (w.heap.size + 1 + 1) B bc cap k lim S C lg _ _ _ _ _ hO.bm (hM.kept hgp (fun e => by injection e; omega)) hO.r.r1).mono ?_
    rintro e' u' w'' ⟨rfl, rfl, rfl⟩
    have hr := hO.r
    refine ⟨_, one7_results (N := w.heap.size + 1 + 1) ⟨hr.r1.store3 rfl _ _ _, ((hr.r2.other ⟨w.heap.size + 1 + 1, 0, none⟩ (by dsimp only; omega) _).other ⟨w.heap.size + 1 + 1, 1, none⟩ (by dsimp only; omega) _).other ⟨w.heap.size + 1 + 1, 2, none⟩ (by dsimp only; omega) _, ((hr.r3.other ⟨w.heap.size + 1 + 1, 0, none⟩ (by dsimp only; omega) _).other ⟨w.heap.size + 1 + 1, 1, none⟩ (by dsimp only; omega) _).other ⟨w.heap.size + 1 + 1, 2, none⟩ (by dsimp only; omega) _, ((hr.r4.other ⟨w.heap.size + 1 + 1, 0, none⟩ (by dsimp only; omega) _).other ⟨w.heap.size + 1 + 1, 1, none⟩ (by dsimp only; omega) _).other ⟨w.heap.size + 1 + 1, 2, none⟩ (by dsimp only; omega) _, ((hr.r5.other ⟨w.heap.size + 1 + 1, 0, none⟩ (by dsimp only; omega) _).other ⟨w.heap.size + 1 + 1, 1, none⟩ (by dsimp only; omega) _).other ⟨w.heap.size + 1 + 1, 2, none⟩ (by dsimp only; omega) _⟩ rfl tmps t4 t5 t6 t7 t8, rfl, below_store3 hO.bel (by omega) _ _ _⟩
set_option maxRecDepth 100000 in
set_option maxHeartbeats 16000000 in
theorem lone_any (s : Sp) (c : List UInt8) (hl : s.txt.length < 100000) (hc : c.length < 100000) (w : World) :
    Calls Try.prog 13 #[spV s, .string ⟨c.toArray⟩] w fun e w' => e = .returned (oneV s c) ∧ Below w.heap.size w w' := by
  obtain ⟨n, t, g⟩ := s
  dsimp only at hl
  obtain ⟨W0, hW0⟩ : ∃ W0, ((((((w.alloc (.cells #[.int .i64 n, .string ⟨t.toArray⟩, .bool g] 24)).alloc (.cells #[.string ⟨c.toArray⟩] 9)).alloc (.cells #[.int .i64 0, .string ⟨#[]⟩, .bool false] 24)).alloc (.cells #[.string ⟨#[]⟩, .bool false] 27)).alloc (.cells #[.string ⟨#[]⟩] 9)).alloc (.cells #[.bool false] 4)).alloc (.cells #[.int .i64 0] 29) = W0 := ⟨_, rfl⟩
  have hB : Below w.heap.size w W0 := by
    rw [← hW0]
    exact (((((((Below.refl _ _).alloc (Nat.le_refl _) _).alloc (by simp) _).alloc (by simp; omega) _).alloc (by simp; omega) _).alloc (by simp; omega) _).alloc (by simp; omega) _).alloc (by simp; omega) _
  have nb : ∀ (t : TypeId) (W : World) (cs : List Value) (k : Nat), W.heap.size = k → CBlk t (W.alloc (.cells cs.toArray t)) k cs := fun t W cs k e => by subst e; exact CBlk.new t W cs
  have b0 : CBlk 24 W0 w.heap.size [.int .i64 n, .string ⟨t.toArray⟩, .bool g] := by
    rw [← hW0]
    exact ((((((nb _ _ _ _ rfl).alloc _).alloc _).alloc _).alloc _).alloc _).alloc _
  have b1 : CBlk 9 W0 (w.heap.size + 1) [.string ⟨c.toArray⟩] := by
    rw [← hW0]
    exact (((((nb _ _ [.string ⟨c.toArray⟩] _ (by simp)).alloc _).alloc _).alloc _).alloc _).alloc _
  have br : OneR W0 (w.heap.size + 1 + 1) (.int .i64 0) (.string ⟨#[]⟩) (.bool false) (.string ⟨#[]⟩) (.bool false) (.string ⟨#[]⟩) (.bool false) (.int .i64 0) := by
    rw [← hW0]
    exact ⟨((((nb _ _ [.int .i64 0, .string ⟨#[]⟩, .bool false] _ (by simp)).alloc _).alloc _).alloc _).alloc _,
      (((nb _ _ [.string ⟨#[]⟩, .bool false] _ (by simp)).alloc _).alloc _).alloc _,
      ((nb _ _ [.string ⟨#[]⟩] _ (by simp)).alloc _).alloc _,
      (nb _ _ [.bool false] _ (by simp)).alloc _,
      nb _ _ [.int .i64 0] _ (by simp)⟩
  have hs : W0.heap.size = w.heap.size + 7 := by rw [← hW0]; simp
  obtain ⟨a0, a1, a2⟩ := b0.cells3
  have a3 := b1.cell1
  have HB := Lib.hid hB
  have HBC := Lib.hid b1
  have HBR := Lib.hid br
  have HS := Lib.hid hs
  clear hB b0 b1 br hs nb
  refine (callsIn_wide (n := 5)).1 ?_
  unfold spV
  refine callsIn_of_wp_marks Try.func13 rfl trivial ?_ rfl
  simp only [Try.ntmps13, List.size_toArray, List.length_cons, List.length_nil, Nat.reduceAdd, Nat.reduceSub, Array.replicate_succ, Array.replicate_zero, List.push_toArray, List.append_toArray, List.nil_append, List.cons_append]
  gi_upto_region 1 with fail
  clear hW0
  gi_wp2_with fail
  refine ⟨trivial, ?_⟩
  refine (callsIn_wide.2 (newMachine_any ⟨n, t, g⟩ c hl hc W0)).mono ?_
  rintro e w1 ⟨hp, hb⟩
  have hB' := HB.out.trans (hb.mono HB.out.size)
  have hC' := HBC.out.below hb HBC.out.lt
  have hR' := HBR.out.below hb (by have := HS.out; omega)
  have hsz := hb.size
  clear hb a0 a1 a2 a3 HB HBC HBR
  obtain ⟨x, hx⟩ : ∃ x, errS ⟨n, t, g⟩ = x := ⟨_, rfl⟩
  unfold NewMach at hp
  dsimp only at hp
  rw [hx] at hp
  by_cases h0 : x = 0
  · subst h0
    rw [if_pos rfl] at hp
    obtain ⟨B, bc, cap, rfl, hm, hch, hbc, hbB, hcap⟩ := hp
    have HX := Lib.hid hx
    obtain ⟨W2, hW2⟩ : ∃ W2, w1.alloc (.cells #[.pointer (some ⟨B, 0, none⟩)] 54) = W2 := ⟨_, rfl⟩
    have GR : Hid (OneR W2 (w.heap.size + 1 + 1) (.int .i64 0) (.string ⟨#[]⟩) (.bool false) (.string ⟨#[]⟩) (.bool false) (.string ⟨#[]⟩) (.bool false) (.int .i64 0)) := Lib.hid (by rw [← hW2]; exact hR'.alloc _)
    have GC : Hid (CBlk 9 W2 (w.heap.size + 1) [.string ⟨c.toArray⟩]) := Lib.hid (by rw [← hW2]; exact hC'.alloc _)
    have gm : CBlk 54 W2 w1.heap.size [.pointer (some ⟨B, 0, none⟩)] := by rw [← hW2]; exact CBlk.new _ w1 _
    have GB : Hid (Below w.heap.size w W2) := Lib.hid (by rw [← hW2]; exact hB'.alloc hB'.size _)
    have HM2 : Hid (CBlk 59 W2 B (mC n t false bc c cap 0)) := Lib.hid (by rw [← hW2]; exact hm.alloc _)
    have HCH2 : Hid (ChAt W2 bc c) := Lib.hid (by rw [← hW2]; exact hch.block (Below.heap_alloc _ _ _ hch.1) (by simp))
    have HS2 : Hid (W2.heap.size = w1.heap.size + 1) := Lib.hid (by rw [← hW2]; simp)
    have HBlt := Lib.hid hm.lt
    have m0 := gm.cell1
    have GM := Lib.hid gm
    clear hR' hC' gm hB' hm hch hx
    gi_upto_region 2 with fail
    clear hW2
    gi_wp2_with fail
    refine ⟨trivial, ?_⟩
    refine (callsIn_wide.2 (lines_any B W2)).mono ?_
    rintro e w' ⟨rfl, rfl⟩
    generalize hW4 : W2.alloc (.cells #[.pointer (some ⟨B, 0, none⟩)] 54) = W4
    gi_wp2_with fail
    obtain ⟨hlim, hS0⟩ := errS_ok HX.out
    have hq24 : W2.heap.size < W4.heap.size := by rw [← hW4, World.size_alloc]; omega
    have hq2 : w1.heap.size < W2.heap.size := by have := HS2.out; omega
    have hBl : B < w1.heap.size := HBlt.out
    have hq0 : w.heap.size + 6 < W0.heap.size := by have := HS.out; omega
    have hgN : W2.grownBy W4 none := by rw [← hW4]; exact gr_alloc (World.grownBy.refl _ _) _
    have hbox : W4.cell? ⟨W2.heap.size, 0, none⟩ = some (.pointer (some ⟨B, 0, none⟩)) := by rw [← hW4]; exact (CBlk.new 54 W2 [.pointer (some ⟨B, 0, none⟩)]).cell1
    have hm4 : CBlk 59 W4 B (mC n t false bc c cap 0) := HM2.out.kept hgN (by simp)
    have hch4 : ChAt W4 bc c := HCH2.out.block (hgN.block _ HCH2.out.1 (by simp)) hgN.size
    have hF4 : OM w W4 W4 w1.heap.size B c (.int .i64 0) (.string ⟨#[]⟩) (.bool false) (.string ⟨#[]⟩) (.bool false) (.string ⟨#[]⟩) (.bool false) (.int .i64 0) := ⟨GR.out.kept hgN (fun r e => by cases e), GC.out.kept hgN (by simp), GM.out.kept hgN (by simp), below_grownR GB.out GB.out.size hgN (fun k e => by cases e), Nat.le_refl _⟩
    clear hW4 m0 GR GC GM GB HM2 HCH2 HS2 HS HBlt hgN
    refine rangeM (by omega) W2.heap.size B bc cap n t c hlim hS0 hc hcap (by omega) (by omega) rfl rfl hbox hm4 hch4
      (fun pre W => pre = [] ∧ OM w W4 W w1.heap.size B c (.int .i64 0) (.string ⟨#[]⟩) (.bool false) (.string ⟨#[]⟩) (.bool false) (.string ⟨#[]⟩) (.bool false) (.int .i64 0))
      (fun pre W => ∃ x : XL, pre = [x] ∧ OM w W4 W w1.heap.size B c (.int .i64 0) (.string ⟨#[]⟩) (.bool false) (.string ⟨x.2.tx.toArray⟩) (.bool x.2.gd) (.string ⟨(c.drop x.1).toArray⟩) (.bool true) (.int .i64 0))
      ?hIB ?hIL ?hXL ⟨rfl, hF4⟩ ?round ?done ?stop
    case hIB =>
      rintro pre W W' ⟨h1, h⟩ hg
      exact ⟨h1, h.kept hg (by omega) (by omega)⟩
    case hIL =>
      rintro pre W W' ⟨h1, h⟩ hg
      exact ⟨h1, h.kept hg (by omega) (by omega)⟩
    case hXL =>
      rintro pre W W' ⟨x, h1, h⟩ hg
      exact ⟨x, h1, h.kept hg (by omega) (by omega)⟩
    case round =>
      clear hbox hm4 hch4 hF4
      rintro pre ⟨k, ⟨tx, gd⟩⟩ W ⟨rfl, hF⟩ - - hkl hsz
      dsimp only at hkl
      unfold encX lnV
      dsimp only
      gi_wp2
      refine ⟨gr_alloc (World.grownBy.refl _ _) _, ?_⟩
      intro W5 hg5
      have hF5 := (hF.alloc (.cells #[.string ⟨tx.toArray⟩, .bool gd] 27)).kept hg5 (by omega) (by omega)
      have hone : CBlk 27 W5 W.heap.size [.string ⟨tx.toArray⟩, .bool gd] := (CBlk.new 27 W [.string ⟨tx.toArray⟩, .bool gd]).kept hg5 (fun e => by injection e; omega)
      have hlt5 : W4.heap.size + 2 ≤ W5.heap.size := by have := hg5.size; rw [World.size_alloc] at this; omega
      have hbx : W4.heap.size + 2 ≤ W.heap.size := hsz
      obtain ⟨Bx, hBx⟩ : ∃ Bx, W.heap.size = Bx := ⟨_, rfl⟩
      rw [hBx] at hone hbx ⊢
      clear hF hg5 hsz hBx
      obtain ⟨X, hX⟩ : ∃ X, c.drop k = X := ⟨_, rfl⟩
      have hd := lba_drop c k
      rw [hX] at hd
      have hXl : X.length < 1000000 := by rw [← hX, List.length_drop]; omega
      have hk1 : (k : Int) ≤ (c.length : Int) := by omega
      have hk2 : (0 : Int) ≤ (k : Int) := by omega
      have HCL : Hid (∀ W, Calls Try.prog 35 #[.string ⟨X.toArray⟩] W fun e w' => e = .returned (.string ⟨X.toArray⟩) ∧ Below W.heap.size W w') := Lib.hid (clone_any X hXl)
      gi_upto_region 8 with fail
      obtain ⟨V, hV⟩ : ∃ V, W5.drew = V := ⟨_, rfl⟩
      have hFV : OM w W4 V w1.heap.size B c (.int .i64 0) (.string ⟨#[]⟩) (.bool false) (.string ⟨#[]⟩) (.bool false) (.string ⟨#[]⟩) (.bool false) (.int .i64 0) := by rw [← hV]; exact hF5.drew
      have honeV : CBlk 27 V Bx [.string ⟨tx.toArray⟩, .bool gd] := by rw [← hV]; exact hone
      have hsV : V.heap.size = W5.heap.size := by rw [← hV]; rfl
      have hhV : ∀ q : Nat, V.heap[q]? = W5.heap[q]? := fun q => by rw [← hV]; rfl
      have HFIN : Hid (∀ (w2 : World) (a : Act), Below V.heap.size V w2 → bodyM W4.heap.size B bc W2.heap.size
          (fun pre W => pre = [] ∧ OM w W4 W w1.heap.size B c (.int .i64 0) (.string ⟨#[]⟩) (.bool false) (.string ⟨#[]⟩) (.bool false) (.string ⟨#[]⟩) (.bool false) (.int .i64 0))
          (fun pre W => ∃ x : XL, pre = [x] ∧ OM w W4 W w1.heap.size B c (.int .i64 0) (.string ⟨#[]⟩) (.bool false) (.string ⟨x.2.tx.toArray⟩) (.bool x.2.gd) (.string ⟨(c.drop x.1).toArray⟩) (.bool true) (.int .i64 0))
          ([] ++ [((k, ⟨tx, gd⟩) : XL)]) W5 .ret a (oneSt w2 (w.heap.size + 1 + 1) (.int .i64 0) (.string ⟨#[]⟩) (.bool false) (.string ⟨tx.toArray⟩) (.bool gd) (.string ⟨X.toArray⟩) (.bool true) (.int .i64 0))) := Lib.hid (by
        intro w2 a hbw
        have hq : ∀ q, w.heap.size + 6 < q → q < W4.heap.size + 2 → (oneSt w2 (w.heap.size + 1 + 1) (.int .i64 0) (.string ⟨#[]⟩) (.bool false) (.string ⟨tx.toArray⟩) (.bool gd) (.string ⟨X.toArray⟩) (.bool true) (.int .i64 0)).heap[q]? = W5.heap[q]? := fun q h1 h2 =>
          (oneSt_other _ _ _ _ _ _ _ _ _ _ _ (by omega)).trans ((hbw.block q (by rw [hsV]; omega)).trans (hhV q))
        have hs2 : W5.heap.size ≤ (oneSt w2 (w.heap.size + 1 + 1) (.int .i64 0) (.string ⟨#[]⟩) (.bool false) (.string ⟨tx.toArray⟩) (.bool gd) (.string ⟨X.toArray⟩) (.bool true) (.int .i64 0)).heap.size := by rw [oneSt_size, ← hsV]; exact hbw.size
        refine ⟨⟨hs2, hq _ (by omega) (by omega), hq _ (by omega) (by omega)⟩, ⟨hs2, hq _ (by omega) (by omega), hq _ (by omega) (by omega), hq _ (by omega) (by omega)⟩, (k, ⟨tx, gd⟩), rfl, ?_⟩
        dsimp only
        rw [hX]
        exact (hFV.below hbw).stored (by omega) _ _ _ _ _ _ _ _)
      obtain ⟨x0, x1, x2⟩ := hFV.r.r1.cells3
      obtain ⟨o0, o1⟩ := honeV.cells2
      have ch0 := hFV.ch.cell1
      have hBx1 : ¬ w.heap.size + 1 + 1 = Bx := by omega
      have hBx2 : ¬ Bx = w.heap.size + 1 + 1 := by omega
      have HR1 := Lib.hid hFV.r.r1
      have HR2 := Lib.hid hFV.r.r2
      have HR3 := Lib.hid hFV.r.r3
      have HR4 := Lib.hid hFV.r.r4
      have HR5 := Lib.hid hFV.r.r5
      have HONE := Lib.hid honeV
      clear hFV honeV hF5 hone hX hsV hhV hXl hlt5 hbx
      refine wpIn_region_any (by kernel_rfl) ?_
      change wpAnyIn _ _ _ _ _ _ _ _ _ (World.drew _)
      rw [hV]
      clear hV
      all_goals first
        | (refine wpAnyIn_ready (rs := [0, 1, 2, 3]) (by decide +kernel) (by simp) ?_; refine (AllReadyIn.cons rfl (fun K hK => ?_) (AllReadyIn.cons rfl (fun K hK => ?_) (AllReadyIn.cons rfl (fun K hK => ?_) (AllReadyIn.cons rfl (fun K hK => ?_) AllReadyIn.nil)))))
      all_goals first
        | (go_simp; refine hK _ _ ?_; clear hK K)
      all_goals first
        | (refine wpAnyIn_ready (rs := [0, 1, 2]) (by decide +kernel) (by simp) ?_; refine (AllReadyIn.cons rfl (fun K hK => ?_) (AllReadyIn.cons rfl (fun K hK => ?_) (AllReadyIn.cons rfl (fun K hK => ?_) AllReadyIn.nil))))
        | (refine wpAnyIn_ready (rs := [0, 1, 3]) (by decide +kernel) (by simp) ?_; refine (AllReadyIn.cons rfl (fun K hK => ?_) (AllReadyIn.cons rfl (fun K hK => ?_) (AllReadyIn.cons rfl (fun K hK => ?_) AllReadyIn.nil))))
        | (refine wpAnyIn_ready (rs := [1, 2, 3]) (by decide +kernel) (by simp) ?_; refine (AllReadyIn.cons rfl (fun K hK => ?_) (AllReadyIn.cons rfl (fun K hK => ?_) (AllReadyIn.cons rfl (fun K hK => ?_) AllReadyIn.nil))))
        | (refine wpAnyIn_ready (rs := [0, 2, 3]) (by decide +kernel) (by simp) ?_; refine (AllReadyIn.cons rfl (fun K hK => ?_) (AllReadyIn.cons rfl (fun K hK => ?_) (AllReadyIn.cons rfl (fun K hK => ?_) AllReadyIn.nil))))
      all_goals first
        | (go_simp; refine hK _ _ ?_; clear hK K)
      all_goals first
        | (refine wpAnyIn_ready (rs := [0, 1, 4]) (by decide +kernel) (by simp) ?_; refine (AllReadyIn.cons rfl (fun K hK => ?_) (AllReadyIn.cons rfl (fun K hK => ?_) (AllReadyIn.cons rfl (fun K hK => ?_) AllReadyIn.nil))))
        | (refine wpAnyIn_ready (rs := [1, 2]) (by decide +kernel) (by simp) ?_; refine (AllReadyIn.cons rfl (fun K hK => ?_) (AllReadyIn.cons rfl (fun K hK => ?_) AllReadyIn.nil)))
        | (refine wpAnyIn_ready (rs := [0, 3]) (by decide +kernel) (by simp) ?_; refine (AllReadyIn.cons rfl (fun K hK => ?_) (AllReadyIn.cons rfl (fun K hK => ?_) AllReadyIn.nil)))
        | (refine wpAnyIn_ready (rs := [2, 3]) (by decide +kernel) (by simp) ?_; refine (AllReadyIn.cons rfl (fun K hK => ?_) (AllReadyIn.cons rfl (fun K hK => ?_) AllReadyIn.nil)))
        | (refine wpAnyIn_ready (rs := [0, 2]) (by decide +kernel) (by simp) ?_; refine (AllReadyIn.cons rfl (fun K hK => ?_) (AllReadyIn.cons rfl (fun K hK => ?_) AllReadyIn.nil)))
        | (refine wpAnyIn_ready (rs := [1, 3]) (by decide +kernel) (by simp) ?_; refine (AllReadyIn.cons rfl (fun K hK => ?_) (AllReadyIn.cons rfl (fun K hK => ?_) AllReadyIn.nil)))
      all_goals first
        | (go_simp; refine hK _ _ ?_; clear hK K)
      all_goals first
        | (refine wpAnyIn_ready (rs := [0, 1, 5]) (by decide +kernel) (by simp) ?_; refine (AllReadyIn.cons rfl (fun K hK => ?_) (AllReadyIn.cons rfl (fun K hK => ?_) (AllReadyIn.cons rfl (fun K hK => ?_) AllReadyIn.nil))))
        | (refine wpAnyIn_ready (rs := [0, 4]) (by decide +kernel) (by simp) ?_; refine (AllReadyIn.cons rfl (fun K hK => ?_) (AllReadyIn.cons rfl (fun K hK => ?_) AllReadyIn.nil)))
        | (refine wpAnyIn_ready (rs := [1, 4]) (by decide +kernel) (by simp) ?_; refine (AllReadyIn.cons rfl (fun K hK => ?_) (AllReadyIn.cons rfl (fun K hK => ?_) AllReadyIn.nil)))
        | (refine wpAnyIn_ready (rs := [2]) (by decide +kernel) (by simp) ?_; refine (AllReadyIn.cons rfl (fun K hK => ?_) AllReadyIn.nil))
        | (refine wpAnyIn_ready (rs := [3]) (by decide +kernel) (by simp) ?_; refine (AllReadyIn.cons rfl (fun K hK => ?_) AllReadyIn.nil))
      all_goals first
        | (go_simp; refine hK _ _ ?_; clear hK K)
        | (go_simp; refine ⟨trivial, (CallsIn.inRound _ (callsIn_wide.2 (HCL.out _))).mono ?_⟩; rintro e w2 ⟨rfl, hbw⟩; obtain ⟨xx0, xx1, xx2⟩ := (HR1.out.below hbw HR1.out.lt).cells3; obtain ⟨yy0, yy1⟩ := (HR2.out.below hbw HR2.out.lt).cells2; have zz0 := (HR3.out.below hbw HR3.out.lt).cell1; have uu0 := (HR4.out.below hbw HR4.out.lt).cell1; have vv0 := (HR5.out.below hbw HR5.out.lt).cell1; have g0 := (HR1.out.below hbw HR1.out.lt).free 0; have g1 := (HR1.out.below hbw HR1.out.lt).free 1; have g2 := (HR1.out.below hbw HR1.out.lt).free 2; have g3 := (HR2.out.below hbw HR2.out.lt).free 0; have g4 := (HR2.out.below hbw HR2.out.lt).free 1; have g5 := (HR3.out.below hbw HR3.out.lt).free 0; have g6 := (HR4.out.below hbw HR4.out.lt).free 0; have g7 := (HR5.out.below hbw HR5.out.lt).free 0; obtain ⟨oo0, oo1⟩ := (HONE.out.below hbw HONE.out.lt).cells2; have HBW := Lib.hid hbw; clear hbw; dsimp only; refine hK _ _ ?_; clear hK K)
      all_goals first
        | (refine wpAnyIn_ready (rs := [0, 1]) (by decide +kernel) (by simp) ?_; refine (AllReadyIn.cons rfl (fun K hK => ?_) (AllReadyIn.cons rfl (fun K hK => ?_) AllReadyIn.nil)))
        | (refine wpAnyIn_ready (rs := [0, 5]) (by decide +kernel) (by simp) ?_; refine (AllReadyIn.cons rfl (fun K hK => ?_) (AllReadyIn.cons rfl (fun K hK => ?_) AllReadyIn.nil)))
        | (refine wpAnyIn_ready (rs := [1, 5]) (by decide +kernel) (by simp) ?_; refine (AllReadyIn.cons rfl (fun K hK => ?_) (AllReadyIn.cons rfl (fun K hK => ?_) AllReadyIn.nil)))
        | (refine wpAnyIn_ready (rs := [4]) (by decide +kernel) (by simp) ?_; refine (AllReadyIn.cons rfl (fun K hK => ?_) AllReadyIn.nil))
      all_goals first
        | (go_simp; refine hK _ _ ?_; clear hK K)
        | (go_simp; refine ⟨trivial, (CallsIn.inRound _ (callsIn_wide.2 (HCL.out _))).mono ?_⟩; rintro e w2 ⟨rfl, hbw⟩; obtain ⟨xx0, xx1, xx2⟩ := (HR1.out.below hbw HR1.out.lt).cells3; obtain ⟨yy0, yy1⟩ := (HR2.out.below hbw HR2.out.lt).cells2; have zz0 := (HR3.out.below hbw HR3.out.lt).cell1; have uu0 := (HR4.out.below hbw HR4.out.lt).cell1; have vv0 := (HR5.out.below hbw HR5.out.lt).cell1; have g0 := (HR1.out.below hbw HR1.out.lt).free 0; have g1 := (HR1.out.below hbw HR1.out.lt).free 1; have g2 := (HR1.out.below hbw HR1.out.lt).free 2; have g3 := (HR2.out.below hbw HR2.out.lt).free 0; have g4 := (HR2.out.below hbw HR2.out.lt).free 1; have g5 := (HR3.out.below hbw HR3.out.lt).free 0; have g6 := (HR4.out.below hbw HR4.out.lt).free 0; have g7 := (HR5.out.below hbw HR5.out.lt).free 0; obtain ⟨oo0, oo1⟩ := (HONE.out.below hbw HONE.out.lt).cells2; have HBW := Lib.hid hbw; clear hbw; dsimp only; refine hK _ _ ?_; clear hK K)
      all_goals first
        | (refine wpAnyIn_ready (rs := [1, 6]) (by decide +kernel) (by simp) ?_; refine (AllReadyIn.cons rfl (fun K hK => ?_) (AllReadyIn.cons rfl (fun K hK => ?_) AllReadyIn.nil)))
        | (refine wpAnyIn_ready (rs := [0]) (by decide +kernel) (by simp) ?_; refine (AllReadyIn.cons rfl (fun K hK => ?_) AllReadyIn.nil))
        | (refine wpAnyIn_ready (rs := [5]) (by decide +kernel) (by simp) ?_; refine (AllReadyIn.cons rfl (fun K hK => ?_) AllReadyIn.nil))
      all_goals first
        | (go_simp; refine hK _ _ ?_; clear hK K)
        | (go_simp; refine ⟨trivial, (CallsIn.inRound _ (callsIn_wide.2 (HCL.out _))).mono ?_⟩; rintro e w2 ⟨rfl, hbw⟩; obtain ⟨xx0, xx1, xx2⟩ := (HR1.out.below hbw HR1.out.lt).cells3; obtain ⟨yy0, yy1⟩ := (HR2.out.below hbw HR2.out.lt).cells2; have zz0 := (HR3.out.below hbw HR3.out.lt).cell1; have uu0 := (HR4.out.below hbw HR4.out.lt).cell1; have vv0 := (HR5.out.below hbw HR5.out.lt).cell1; have g0 := (HR1.out.below hbw HR1.out.lt).free 0; have g1 := (HR1.out.below hbw HR1.out.lt).free 1; have g2 := (HR1.out.below hbw HR1.out.lt).free 2; have g3 := (HR2.out.below hbw HR2.out.lt).free 0; have g4 := (HR2.out.below hbw HR2.out.lt).free 1; have g5 := (HR3.out.below hbw HR3.out.lt).free 0; have g6 := (HR4.out.below hbw HR4.out.lt).free 0; have g7 := (HR5.out.below hbw HR5.out.lt).free 0; obtain ⟨oo0, oo1⟩ := (HONE.out.below hbw HONE.out.lt).cells2; have HBW := Lib.hid hbw; clear hbw; dsimp only; refine hK _ _ ?_; clear hK K)
      all_goals first
        | (refine wpAnyIn_ready (rs := [6]) (by decide +kernel) (by simp) ?_; refine (AllReadyIn.cons rfl (fun K hK => ?_) AllReadyIn.nil))
        | (refine wpAnyIn_ready (rs := [1]) (by decide +kernel) (by simp) ?_; refine (AllReadyIn.cons rfl (fun K hK => ?_) AllReadyIn.nil))
      all_goals first
        | (go_simp; refine hK _ _ ?_; clear hK K)
      all_goals first
        | (refine wpAnyIn_ready (rs := [7]) (by decide +kernel) (by simp) ?_; refine (AllReadyIn.cons rfl (fun K hK => ?_) AllReadyIn.nil))
      all_goals first
        | (go_simp; refine hK _ _ ?_; clear hK K)
      all_goals first
        | (refine wpAnyIn_ready (rs := [8]) (by decide +kernel) (by simp) ?_; refine (AllReadyIn.cons rfl (fun K hK => ?_) AllReadyIn.nil))
      all_goals first
        | (go_simp; refine hK _ _ ?_; clear hK K)
      all_goals first
        | (refine wpAnyIn_ready (rs := [9]) (by decide +kernel) (by simp) ?_; refine (AllReadyIn.cons rfl (fun K hK => ?_) AllReadyIn.nil))
      all_goals first
        | (go_simp; refine hK _ _ ?_; clear hK K)
      all_goals first
        | (refine wpAnyIn_ready (rs := [10]) (by decide +kernel) (by simp) ?_; refine (AllReadyIn.cons rfl (fun K hK => ?_) AllReadyIn.nil))
      all_goals first
        | (go_simp; refine hK _ _ ?_; clear hK K)
      all_goals
        refine wpAnyIn_done (by kernel_rfl) ?_ _
        gi_wp2
        exact HFIN.out _ _ HBW.out
    case done =>
      clear hbox hm4 hch4 hF4
      rintro W' k ⟨hnil, hF⟩ hmf hD
      have hone := feedX_nil hnil
      obtain ⟨x0, x1, x2⟩ := hF.r.r1.cells3
      obtain ⟨y0, y1⟩ := hF.r.r2.cells2
      have z0 := hF.r.r3.cell1
      have u0 := hF.r.r4.cell1
      have v0 := hF.r.r5.cell1
      have f0 := hF.r.r1.free 0
      have f1 := hF.r.r1.free 1
      have f2 := hF.r.r1.free 2
      have f3 := hF.r.r2.free 0
      have f4 := hF.r.r2.free 1
      have f5 := hF.r.r3.free 0
      have f6 := hF.r.r4.free 0
      have f7 := hF.r.r5.free 0
      have HF := Lib.hid hF
      have HM := Lib.hid hmf
      have HD := Lib.hid hD
      have HO := Lib.hid hone
      clear hF hmf hD hone hnil
      gi_upto_region 9 with fail
      gi_wp2_with fail
      exact one_door (W5 := oneSt W' (w.heap.size + 1 + 1) (.int .i64 0) (.string ⟨#[]⟩) (.bool false) (.string ⟨#[]⟩) (.bool false) (.string ⟨#[]⟩) (.bool false) (.int .i64 0)) _ _ (HF.out.stored (by omega) _ _ _ _ _ _ _ _) ((oneSt_other _ _ _ _ _ _ _ _ _ _ _ (by omega)).trans HM.out) ((oneSt_other _ _ _ _ _ _ _ _ _ _ _ (by omega)).trans HD.out) (by omega) (by omega) (by omega)
        (by
          unfold oneV oneR
          rw [HX.out, if_pos rfl]
          dsimp only
          rw [HO.out]
          have := feedL_lim n c t
          unfold oneW spV
          dsimp only
          rw [this]
          rfl) rfl rfl rfl rfl rfl
    case stop =>
      clear hbox hm4 hch4 hF4
      rintro W' pre x rest hpx ⟨x', hx', hF⟩ hmf hD
      obtain ⟨rfl, rfl⟩ : pre = [] ∧ x = x' := by
        cases pre with
        | nil =>
          injection hx' with h1 _
          exact ⟨rfl, h1⟩
        | cons y r =>
          have := congrArg List.length hx'
          simp at this
      obtain ⟨ho, -⟩ := feedX_first hpx
      have HF := Lib.hid hF
      have HM := Lib.hid hmf
      have HD := Lib.hid hD
      have HO := Lib.hid ho
      clear hF hmf hD ho hpx hx'
      gi_wp2
      exact one_door _ _ HF.out HM.out HD.out (by omega) (by omega) (by omega)
        (by
          unfold oneV oneR
          rw [HX.out, if_pos rfl]
          dsimp only
          rw [HO.out]
          rfl) rfl rfl rfl rfl rfl
  · rw [if_neg h0] at hp
    subst hp
    have e0 : ((x : Int) == 0) = false := by rw [beq_eq_false_iff_ne]; omega
    have e1 : ((x : Int) != 0) = true := by rw [bne_iff_ne]; omega
    have HX := Lib.hid hx
    obtain ⟨W2, hW2⟩ : ∃ W2, w1.alloc (.cells #[.pointer none] 54) = W2 := ⟨_, rfl⟩
    have GR : OneR W2 (w.heap.size + 1 + 1) (.int .i64 0) (.string ⟨#[]⟩) (.bool false) (.string ⟨#[]⟩) (.bool false) (.string ⟨#[]⟩) (.bool false) (.int .i64 0) := by rw [← hW2]; exact hR'.alloc _
    have GB : Hid (Below w.heap.size w W2) := Lib.hid (by rw [← hW2]; exact hB'.alloc hB'.size _)
    obtain ⟨x0, x1, x2⟩ := GR.r1.cells3
    obtain ⟨y0, y1⟩ := GR.r2.cells2
    have z0 := GR.r3.cell1
    have u0 := GR.r4.cell1
    have v0 := GR.r5.cell1
    have f0 := GR.r1.free 0
    have f1 := GR.r1.free 1
    have f2 := GR.r1.free 2
    have f3 := GR.r2.free 0
    have f4 := GR.r2.free 1
    have f5 := GR.r3.free 0
    have f6 := GR.r4.free 0
    have f7 := GR.r5.free 0
    have HGR := Lib.hid GR
    have HW2 := Lib.hid hW2
    have HV : Hid (oneV ⟨n, t, g⟩ c = .tuple #[.agg #[.int .i64 0, .string ⟨#[]⟩, .bool false], .agg #[.string ⟨#[]⟩, .bool false], .string ⟨#[]⟩, .bool false, .int .i64 (x : Int)]) := Lib.hid (by unfold oneV oneR; rw [hx, if_neg h0]; rfl)
    clear hx h0 hR' hB' hC' GR hW2
    gi_upto_region 2 with fail
    rw [HW2.out]
    clear HW2
    gi_wp2_with fail
    refine ⟨_, one7_results (w := oneSt W2 (w.heap.size + 1 + 1) (.int .i64 0) (.string ⟨#[]⟩) (.bool false) (.string ⟨#[]⟩) (.bool false) (.string ⟨#[]⟩) (.bool false) (.int .i64 (x : Int))) (HGR.out.stored _ _ _ _ _ _ _ _) rfl _ rfl rfl rfl rfl rfl, by rw [HV.out], oneSt_below GB.out (by omega) _ _ _ _ _ _ _ _⟩
end Go.Proofs.Ytfagjhadfonhdaa
