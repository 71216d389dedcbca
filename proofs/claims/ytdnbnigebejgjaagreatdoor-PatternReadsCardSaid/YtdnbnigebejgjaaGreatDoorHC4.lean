/-
  pattern.isTree for any nodes; what lies below a node of a tree, in order (visit, below).
  What lies below a node of a tree, in order: pattern.visit, pattern.below.
  pattern.placeOf: the first node with the number of a group, in a tree.
  pattern.holds: whether a group is another one, or lies in it, in a tree; every node of a tree is the root of one.
-/
import Derived.Test.YtdnbnigebejgjaaGreatDoorHC3
namespace Go.Proofs.YtdnbnigebejgjaaGreatDoor
open Go.RowKit Go.Shelf
attribute [local go_sem] Oper.semAt_some
/-- Are the nodes a tree, each one at its place? -/
def treeB (L : List ND) : Bool := decide (0 < L.length) && decide ((L.getD 0 (bare 0 .empty 0)).kind = 3) && decide (beh L L.length 0 = some L.length)
theorem isTree_any (L : List ND) (hL : L.length < 1000000000) (v : Value) (W : World) (h : NdsAt W v L) :
    Calls Tryz.prog 39 #[v] W fun e w' => e = .returned (.bool (treeB L)) ∧ Below W.heap.size W w' := by
  obtain ⟨p, cap, rfl, _, hN⟩ := h
  by_cases h0 : L.length = 0
  · have HB : Hid (treeB L = false) := Lib.hid (by unfold treeB; rw [decide_eq_false (by omega : ¬ 0 < L.length)]; rfl)
    have a1 : decide ((0 : Int) < (L.length : Int)) = false := decide_eq_false (by omega)
    have a2 : decide (0 < L.length) = false := decide_eq_false (by omega)
    clear h0
    go_enter Tryz.func39, Tryz.ntmps39
    go_wp2
    go_ret
    exact ⟨by rw [HB.out]; rfl, Below.refl _ _⟩
  · have hp : 0 < L.length := by omega
    obtain ⟨b, off, rfl, hb⟩ := nds_place hN hp
    have a1 : decide ((0 : Int) < (L.length : Int)) = true := decide_eq_true (by omega)
    have a2 : decide (0 < L.length) = true := decide_eq_true (by omega)
    have a3 : (0 : Int) < (L.length : Int) := by omega
    obtain ⟨nd, hnd⟩ : ∃ nd, L[0] = nd := ⟨_, rfl⟩
    have hgd : L.getD 0 (bare 0 .empty 0) = nd := by rw [List.getD_eq_getElem?_getD, List.getElem?_eq_getElem hp]; exact hnd
    obtain ⟨c0, _⟩ := ndV_cells hN hp
    rw [hnd, Nat.zero_mul, Nat.add_zero] at c0
    obtain ⟨q, hq⟩ : ∃ q, decide (nd.kind = 3) = q := ⟨_, rfl⟩
    have hq2 : (nd.kind == 3) = q := by rw [← hq]; rfl
    have HB : Hid (treeB L = (q && decide (beh L L.length 0 = some L.length))) := Lib.hid (by unfold treeB; rw [hgd, hq, decide_eq_true hp]; rfl)
    clear hq hgd
    cases q with
    | false =>
      go_enter Tryz.func39, Tryz.ntmps39
      go_wp2
      go_ret
      exact ⟨by rw [HB.out]; rfl, Below.refl _ _⟩
    | true =>
      have HC := fun n => behind_in L hL b off cap L.length n 0 W hp (by omega) hN hb
      obtain ⟨R, hR⟩ : ∃ R, beh L L.length 0 = R := ⟨_, rfl⟩
      rw [hR] at HC HB
      have hres : (optI R == (L.length : Int)) = decide (R = some L.length) := by
        cases R with
        | none =>
          show ((-1 : Int) == (L.length : Int)) = _
          rw [decide_eq_false (by simp)]
          exact beq_eq_false_iff_ne.2 (by omega)
        | some k =>
          show decide ((k : Int) = (L.length : Int)) = _
          by_cases e : k = L.length
          · subst e; simp
          · rw [decide_eq_false (by omega), decide_eq_false (fun h => e (by injection h))]
      obtain ⟨r, hr⟩ : ∃ r, decide (R = some L.length) = r := ⟨_, rfl⟩
      rw [hr] at hres HB
      have HC' := Lib.hid HC
      clear hr HC hR hN
      go_enter Tryz.func39, Tryz.ntmps39
      go_wp2_with fail
      refine (callsIn_wide.1 (HC'.out 0)).mono ?_
      rintro e w' ⟨rfl, hB⟩
      go_wp2
      go_ret
      exact ⟨by rw [HB.out]; rfl, hB⟩
end Go.Proofs.YtdnbnigebejgjaaGreatDoor
namespace Go.Proofs.YtdnbnigebejgjaaGreatDoor
open Go.RowKit Go.Shelf
attribute [local go_sem] Oper.semAt_some Oper.askedIn wide_fn
theorem kl_open {L : List ND} {f : Nat} {kd : Int} {nx : Nat} {c : Int} {k : Nat} (h : kl L f kd nx c = some k) (hc : c ≠ -1) :
    ∃ f', f = f' + 1 ∧ c = (nx : Int) ∧ nx < L.length ∧ ∃ k2, beh L f' nx = some k2 ∧ kl L f' kd k2 ((L.getD nx (bare 0 .empty 0)).next) = some k := by
  cases f with
  | zero => unfold kl at h; rw [if_neg hc] at h; cases h
  | succ f =>
    unfold kl at h
    rw [if_neg hc] at h
    split at h
    · rename_i hlt
      have hg : L.getD nx (bare 0 .empty 0) = L[nx] := by rw [List.getD_eq_getElem?_getD, List.getElem?_eq_getElem hlt]; rfl
      rw [hg]
      split at h
      · rename_i hh
        cases hq : kl L f L[nx].kind (nx + 1) L[nx].first with
        | none => rw [hq] at h; cases h
        | some k2 =>
          rw [hq] at h
          exact ⟨f, rfl, hh.1, hlt, k2, by unfold beh; rw [dif_pos hlt, if_pos hh.2.2, hq], h⟩
      · cases h
    · cases h
theorem beh_open {L : List ND} {f at_ k : Nat} (h : beh L f at_ = some k) : at_ < L.length ∧ kl L f ((L.getD at_ (bare 0 .empty 0)).kind) (at_ + 1) ((L.getD at_ (bare 0 .empty 0)).first) = some k ∧ at_ < k ∧ k ≤ L.length := by
  unfold beh at h
  split at h
  · rename_i hlt
    have hg : L.getD at_ (bare 0 .empty 0) = L[at_] := by rw [List.getD_eq_getElem?_getD, List.getElem?_eq_getElem hlt]; rfl
    rw [hg]
    split at h
    · have := kl_ge L _ _ _ _ _ h
      exact ⟨hlt, h, by omega, by omega⟩
    · cases h
  · cases h
theorem iterL_true {fid : Nat} {lb : Array Value} {E : List (Array Value)} {Bad : Nat → Prop} {ks : Nat → Prop} {w0 : World} (h : IterL false fid lb E Bad ks w0) : IterL true fid lb E Bad ks w0 :=
  fun n lp J Jx W hW hJ hX hY h0 => h n lp J Jx W hW (fun j X X' row a b c => hJ j X X' row a b (fun r e => ⟨(c r e).1, rfl⟩)) (fun j X X' row a b c => hX j X X' row a b (fun r e => ⟨(c r e).1, rfl⟩)) hY h0
/-- What a yield owes to visit. -/
def YW (M0 lp : Nat) (ks : Nat → Prop) (J Jx : Nat → World → Prop) (s e0 : Nat) : Prop :=
  ∀ j, s ≤ j → j < e0 → ∀ m X, J j X → M0 ≤ X.heap.size → YieldAt Fence.wide m Tryz.prog lp #[.int .i64 (j : Int)] X fun e X' =>
    (e = .returned (.bool true) ∧ J (j + 1) X' ∧ KeepsAt (fun k => ks k ∨ (M0 ≤ k ∧ k < X.heap.size)) X X' ∧ X.heap.size ≤ X'.heap.size) ∨ (e = .returned (.bool false) ∧ Jx (j + 1) X' ∧ KeepsAt (fun k => ks k ∨ (M0 ≤ k ∧ k < X.heap.size)) X X' ∧ X.heap.size ≤ X'.heap.size)
/-- What visit owes. -/
def VPost (M0 : Nat) (ks : Nat → Prop) (J Jx : Nat → World → Prop) (k : Nat) (W : World) (e : Ending) (X' : World) : Prop :=
  (e = .returned (.bool true) ∧ J k X' ∧ KeepsAt (fun i => ks i ∨ (M0 ≤ i ∧ i < W.heap.size)) W X' ∧ W.heap.size ≤ X'.heap.size) ∨ (e = .returned (.bool false) ∧ (∃ j, Jx j X') ∧ KeepsAt (fun i => ks i ∨ (M0 ≤ i ∧ i < W.heap.size)) W X' ∧ W.heap.size ≤ X'.heap.size)
def VI (L : List ND) (f at_ : Nat) (kd c0 : Int) (k : Nat) (sl yf : Value) (M0 : Nat) (ks : Nat → Prop) (J : Nat → World → Prop) (W : World) (M : Nat) (j : Nat) (X : World) : Prop :=
  ∃ f' nx : Nat, f' ≤ f ∧ kl L f' kd nx ((chn L (L.length + 1) c0).getD j (-1)) = some k ∧ at_ + 1 + j ≤ nx ∧ nx ≤ L.length ∧ J nx X ∧
    CBlk 23 X W.heap.size [sl] ∧ CBlk 98 X (W.heap.size + 1) [yf] ∧ CBlk 4 X (W.heap.size + 1 + 1) [.bool false] ∧
    KeepsAt (fun i => ks i ∨ (M0 ≤ i ∧ i < W.heap.size)) W X ∧ M ≤ X.heap.size
def VX (Jx : Nat → World → Prop) (M0 : Nat) (ks : Nat → Prop) (W : World) (M : Nat) (X : World) : Prop := (∃ j, Jx j X) ∧ CBlk 4 X (W.heap.size + 1 + 1) [.bool false] ∧ KeepsAt (fun i => ks i ∨ (M0 ≤ i ∧ i < W.heap.size)) W X ∧ M ≤ X.heap.size
set_option maxHeartbeats 8000000 in
set_option maxRecDepth 100000 in
theorem visit_step (L : List ND) (b off cap : Nat) (M0 lp : Nat) (ks : Nat → Prop) (J Jx : Nat → World → Prop) (hJ : AbJ M0 true J) (hX : AbJ M0 true Jx) (s e0 : Nat) (hY : YW M0 lp ks J Jx s e0) (hkb : ks b) (hks : ∀ k, ks k → k < M0) (f : Nat)
    (ih : ∀ f' n at_ k W, f' < f → beh L f' at_ = some k → s ≤ at_ → k ≤ e0 → M0 ≤ W.heap.size → J at_ W → NdsIn W (some ⟨b, off, none⟩) L →
      CallsIn Fence.wide n Tryz.prog 64 #[.slice (some ⟨b, off, none⟩) L.length cap, .int .i64 (at_ : Int), .func (.yield lp) #[] #[]] W (VPost M0 ks J Jx k W))
    (n at_ k : Nat) (W : World) (hbe : beh L f at_ = some k) (hs : s ≤ at_) (he : k ≤ e0) (hM : M0 ≤ W.heap.size) (hJ0 : J at_ W) (hN : NdsIn W (some ⟨b, off, none⟩) L) :
    CallsIn Fence.wide n Tryz.prog 64 #[.slice (some ⟨b, off, none⟩) L.length cap, .int .i64 (at_ : Int), .func (.yield lp) #[] #[]] W (VPost M0 ks J Jx k W) := by
  obtain ⟨hat, hkl, hak, hkL⟩ := beh_open hbe
  have hbM := hks b hkb
  have HIH := Lib.hid ih
  have HY := Lib.hid hY
  have HJA := Lib.hid hJ
  have HXA := Lib.hid hX
  obtain ⟨nd, hnd⟩ : ∃ nd, L[at_] = nd := ⟨_, rfl⟩
  have hg : L.getD at_ (bare 0 .empty 0) = nd := by rw [List.getD_eq_getElem?_getD, List.getElem?_eq_getElem hat]; exact hnd
  rw [hg] at hkl
  have HKL := Lib.hid hkl
  clear ih hg hkl hY hJ hX
  generalize hW0 : ((W.alloc (.cells #[.slice (some ⟨b, off, none⟩) L.length cap] 23)).alloc (.cells #[.func (.yield lp) #[] #[]] 98)).alloc (.cells #[.bool false] 4) = W0
  have s0 : CBlk 23 W0 W.heap.size [.slice (some ⟨b, off, none⟩) L.length cap] := by rw [← hW0]; exact ((CBlk.new _ W _).alloc _).alloc _
  have s1 : CBlk 98 W0 (W.heap.size + 1) [.func (.yield lp) #[] #[]] := by
    rw [← hW0]
    have := (CBlk.new 98 (W.alloc (.cells #[.slice (some ⟨b, off, none⟩) L.length cap] 23)) [.func (.yield lp) #[] #[]]).alloc (.cells #[.bool false] 4)
    rwa [World.size_alloc] at this
  have s2 : CBlk 4 W0 (W.heap.size + 1 + 1) [.bool false] := by
    rw [← hW0]
    have := CBlk.new 4 ((W.alloc (.cells #[.slice (some ⟨b, off, none⟩) L.length cap] 23)).alloc (.cells #[.func (.yield lp) #[] #[]] 98)) [.bool false]
    rwa [World.size_alloc, World.size_alloc] at this
  have hB0 : Below W.heap.size W W0 := by rw [← hW0]; exact (((Below.refl _ W).alloc (Nat.le_refl _) _).alloc (by simp) _).alloc (by simp; omega) _
  have hz0 : W0.heap.size = W.heap.size + 3 := by rw [← hW0]; simp
  have hG0 : W.grownBy W0 none := by rw [← hW0]; exact jgal (jgal (jgal (jgrefl _ _) _) _) _
  have hJ1 : J at_ W0 := HJA.out _ _ _ _ hJ0 hG0 (fun r e => by cases e)
  have hN0 : NdsIn W0 (some ⟨b, off, none⟩) L := CellsIn.below hN hB0 (Nat.le_refl _)
  obtain ⟨fn, tmps, assign, body, hy, hR⟩ := HY.out at_ hs (by omega) (n - 1) W0 hJ1 (by omega)
  have HR := Lib.hid hR
  have HJ1 := Lib.hid hJ1
  have HN0 := Lib.hid hN0
  have HNW := Lib.hid hN
  have t0 := s0.cell1
  have t1 := s1.cell1
  clear hR hJ0 hJ1 hN hN0 hG0
  refine callsIn_of_wp_marks Tryz.func64 rfl trivial ?_ rfl
  simp only [Tryz.ntmps64, List.size_toArray, List.length_cons, List.length_nil, Nat.reduceAdd, Nat.reduceSub, Array.replicate_succ, Array.replicate_zero, List.push_toArray, List.append_toArray, List.nil_append, List.cons_append]
  gi_upto_region 1 with fail
  clear hW0
  gi_wp2_with fail
  refine ⟨(fun h => by cases h), HR.out.mono ?_⟩
  rintro e w1 (⟨rfl, hJw, hKw, hzw⟩ | ⟨rfl, hXw, hKw, hzw⟩)
  · have hne : ∀ i, i < W0.heap.size → M0 ≤ i → (fun k => ks k ∨ (M0 ≤ k ∧ k < W0.heap.size)) i := fun i h1 h2 => .inr ⟨h2, h1⟩
    have r0 := s0.keeps hKw (hne _ (by omega) (by omega))
    have r1 := s1.keeps hKw (hne _ (by omega) (by omega))
    have r2 := s2.keeps hKw (hne _ (by omega) (by omega))
    have hN1 := HN0.out.keeps hKw (.inl hkb) hzw
    have hKW : KeepsAt (fun i => ks i ∨ (M0 ≤ i ∧ i < W.heap.size)) W w1 := (KeepsAt.below hB0 (fun i hi => by rcases hi with h | h; have := hks i h; omega; omega)).trans (hKw.mono' (fun i hi => by rcases hi with h | h; exact .inl h; exact .inr (by omega)))
    have HKW := Lib.hid hKW
    have HJW := Lib.hid hJw
    have HN1 := Lib.hid hN1
    have l2 := r2.lt
    clear hy s0 s1 s2 t0 t1 hKw HR HJ1 HN0 hKW hJw hN1 hne hB0
    have t0 := r0.cell1
    gi_wp2_with fail
    refine ⟨(fun h => by cases h), (callsIn_wide.2 (children_any _ _ _ _ _)).mono ?_⟩
    rintro e w' ⟨rfl, rfl⟩
    generalize hX3 : (w1.alloc (.cells #[.slice (some ⟨b, off, none⟩) L.length cap] 23)).alloc (.cells #[.int .i64 (at_ : Int)] 3) = X3
    have g0 := (r0.alloc (.cells #[.slice (some ⟨b, off, none⟩) L.length cap] 23)).alloc (.cells #[.int .i64 (at_ : Int)] 3)
    have g1 := (r1.alloc (.cells #[.slice (some ⟨b, off, none⟩) L.length cap] 23)).alloc (.cells #[.int .i64 (at_ : Int)] 3)
    have g2 := (r2.alloc (.cells #[.slice (some ⟨b, off, none⟩) L.length cap] 23)).alloc (.cells #[.int .i64 (at_ : Int)] 3)
    have g4 : CBlk 23 X3 w1.heap.size [.slice (some ⟨b, off, none⟩) L.length cap] := by rw [← hX3]; exact (CBlk.new _ w1 _).alloc _
    have g5 : CBlk 3 X3 (w1.heap.size + 1) [.int .i64 (at_ : Int)] := by
      rw [← hX3]
      have := CBlk.new 3 (w1.alloc (.cells #[.slice (some ⟨b, off, none⟩) L.length cap] 23)) [.int .i64 (at_ : Int)]
      rwa [World.size_alloc] at this
    rw [hX3] at g0 g1 g2
    have hB3 : Below w1.heap.size w1 X3 := by rw [← hX3]; exact ((Below.refl _ w1).alloc (Nat.le_refl _) _).alloc (by simp) _
    have hG3 : w1.grownBy X3 none := by rw [← hX3]; exact jgal (jgal (jgrefl _ _) _) _
    have hz3 : X3.heap.size = w1.heap.size + 2 := by rw [← hX3]; simp
    have hN3 : NdsIn X3 (some ⟨b, off, none⟩) L := CellsIn.below HN1.out hB3 (Nat.le_refl _)
    have hJ3 : J (at_ + 1) X3 := HJA.out _ _ _ _ HJW.out hG3 (fun r e => by cases e)
    have hK3 : KeepsAt (fun i => ks i ∨ (M0 ≤ i ∧ i < W.heap.size)) W X3 := HKW.out.trans (KeepsAt.below hB3 (fun i hi => by rcases hi with h | h; have := hks i h; omega; omega))
    have HJ3 := Lib.hid hJ3
    have HK3 := Lib.hid hK3
    have HN3 := Lib.hid hN3
    clear hX3 r0 r1 r2 t0 hB3 hG3 hJ3 hK3 hN3 HN1 HJW HKW
    gi_wp2_with fail
    refine rangeL (st := true) (fid := 66) (lb := #[.pointer (some ⟨w1.heap.size, 0, none⟩), .pointer (some ⟨w1.heap.size + 1, 0, none⟩)]) (E := intE (chn L (L.length + 1) nd.first)) (Bad := BadK L (L.length + 1) (chn L (L.length + 1) nd.first)) (ks := fun k => k = b ∨ k = w1.heap.size ∨ k = w1.heap.size + 1)
      rfl (enters_of Tryz.func66 (by kernel_rfl) rfl) (fun j hj => by simp [intE]) ?iter (fun k hk => by omega)
      (VI L f at_ nd.kind nd.first k (.slice (some ⟨b, off, none⟩) L.length cap) (.func (.yield lp) #[] #[]) M0 ks J W X3.heap.size) (VX Jx M0 ks W X3.heap.size) ?hI ?hIx ?h0 ?round ?done ?stop
    case iter =>
      have := children_iter L (L.length + 1) at_ hat b off cap w1.heap.size (w1.heap.size + 1) (fun k => k = b ∨ k = w1.heap.size ∨ k = w1.heap.size + 1) X3 HN3.out g4 g5 (.inl rfl) (.inr (.inl rfl)) (.inr (.inr rfl))
      rw [hnd] at this
      exact iterL_true this
    case hI =>
      rintro j X X' row ⟨f', nx, x1, x2, x3, x4, x5, y0, y1, y2, y3, y4⟩ hg hr
      have hne : ∀ i, i < X3.heap.size → some i ≠ row := fun i hi e => by have := (hr i e.symm).1; omega
      exact ⟨f', nx, x1, x2, x3, x4, HJA.out _ _ _ _ x5 hg (fun r e => ⟨by have := (hr r e).1; omega, rfl⟩), y0.kept hg (hne _ (by omega)), y1.kept hg (hne _ (by omega)), y2.kept hg (hne _ (by omega)),
        y3.trans (keepsAt_grown hg (fun i hi => by rcases hi with h | h; exact ⟨by have := hks i h; omega, hne _ (by have := hks i h; omega)⟩; exact ⟨by omega, hne _ (by omega)⟩)), Nat.le_trans y4 hg.size⟩
    case hIx =>
      rintro X X' row ⟨⟨j, x1⟩, y2, y3, y4⟩ hg hr
      have hne : ∀ i, i < X3.heap.size → some i ≠ row := fun i hi e => by have := (hr i e.symm).1; omega
      exact ⟨⟨j, HXA.out _ _ _ _ x1 hg (fun r e => ⟨by have := (hr r e).1; omega, rfl⟩)⟩, y2.kept hg (hne _ (by omega)),
        y3.trans (keepsAt_grown hg (fun i hi => by rcases hi with h | h; exact ⟨by have := hks i h; omega, hne _ (by have := hks i h; omega)⟩; exact ⟨by omega, hne _ (by omega)⟩)), Nat.le_trans y4 hg.size⟩
    case h0 =>
      exact ⟨f, at_ + 1, Nat.le_refl _, by rw [chn_zero]; exact HKL.out, by omega, by omega, HJ3.out, g0, g1, g2, HK3.out, Nat.le_refl _⟩
    case done =>
      rintro X ⟨f', nx, x1, x2, x3, x4, x5, y0, y1, y2, y3, y4⟩ hz hD
      rw [show (intE (chn L (L.length + 1) nd.first)).length = (chn L (L.length + 1) nd.first).length from List.length_map _, chn_end] at x2
      have hres : nx = k := by
        have : kl L f' nd.kind nx (-1) = some nx := by cases f' <;> rfl
        rw [this] at x2
        injection x2
      subst hres
      have HD := Lib.hid hD
      have Y2 := Lib.hid y2
      have Y3 := Lib.hid y3
      have X5 := Lib.hid x5
      have c2 := y2.cell1
      have fz2 := y2.free 0
      clear g0 g1 g2 g4 g5 x1 x2 x3 x5 hD y0 y1 y2 y3
      gi_wp2_with fail
      obtain ⟨X1, hX1⟩ : ∃ X1, X.setCell ⟨W.heap.size + 1 + 1, 0, none⟩ (.bool true) = X1 := ⟨_, rfl⟩
      have hg1 : X.grownBy X1 (some (W.heap.size + 1 + 1)) := by rw [← hX1]; exact jgset X (W.heap.size + 1 + 1) 0 _
      have hb1 : CBlk 4 X1 (W.heap.size + 1 + 1) [.bool true] := by rw [← hX1]; exact Y2.out.set 0 (.bool true)
      have hD1 : X1.heap[X3.heap.size]? = some (.deferred (some [])) := by rw [← hX1]; exact (Below.heap_setCell _ _ _ _ (by show X3.heap.size ≠ W.heap.size + 1 + 1; omega)).trans HD.out
      have hgp := grownBy_putObj' X1 X3.heap.size (.deferred none)
      rw [hX1]
      refine ⟨by simp, .inl ⟨_, _, rfl, run_takeDeferred hD1, ?_⟩⟩
      refine ⟨_, res1 (hb1.kept hgp (fun e => by injection e; omega)) rfl _ rfl Tryz.isAgg4, ?_⟩
      exact .inl ⟨rfl, HJA.out _ _ _ _ (HJA.out _ _ _ _ X5.out hg1 (fun r e => by injection e; exact ⟨by omega, rfl⟩)) hgp (fun r e => by injection e; exact ⟨by omega, rfl⟩),
        (Y3.out.trans (keepsAt_grown hg1 (fun i hi => by rcases hi with h | h; exact ⟨by have := hks i h; omega, fun e => by injection e; have := hks i h; omega⟩; exact ⟨by omega, fun e => by injection e; omega⟩))).trans (keepsAt_grown hgp (fun i hi => by rcases hi with h | h; exact ⟨by have := hks i h; have := hg1.size; omega, fun e => by injection e; have := hks i h; omega⟩; exact ⟨by have := hg1.size; omega, fun e => by injection e; omega⟩)),
        by have := hg1.size; have := hgp.size; omega⟩
    case stop =>
      rintro X ⟨⟨j, x1⟩, y2, y3, y4⟩ hD
      have HX1 := Lib.hid x1
      have Y3 := Lib.hid y3
      have HD := Lib.hid hD
      have Y2 := Lib.hid y2
      clear g0 g1 g2 g4 g5 x1 hD y2 y3
      gi_wp2_with fail
      have hgp := grownBy_putObj' X X3.heap.size (.deferred none)
      refine ⟨by simp, .inl ⟨_, _, rfl, run_takeDeferred HD.out, ?_⟩⟩
      refine ⟨_, res1 (Y2.out.kept hgp (fun e => by injection e; omega)) rfl _ rfl Tryz.isAgg4, ?_⟩
      exact .inr ⟨rfl, ⟨j, HXA.out _ _ _ _ HX1.out hgp (fun r e => by injection e; exact ⟨by omega, rfl⟩)⟩,
        Y3.out.trans (keepsAt_grown hgp (fun i hi => by rcases hi with h | h; exact ⟨by have := hks i h; omega, fun e => by injection e; have := hks i h; omega⟩; exact ⟨by omega, fun e => by injection e; omega⟩)), by have := hgp.size; omega⟩
    case round =>
      rintro j hj m X hVI hz
      have hjc : j < (chn L (L.length + 1) nd.first).length := by rw [show (intE (chn L (L.length + 1) nd.first)).length = (chn L (L.length + 1) nd.first).length from List.length_map _] at hj; exact hj
      obtain ⟨kc, hk⟩ : ∃ kc, (chn L (L.length + 1) nd.first).getD j (-1) = kc := ⟨_, rfl⟩
      have hEj : (intE (chn L (L.length + 1) nd.first))[j] = #[.int .i64 kc] := by rw [intE_at, hk]
      rw [hEj]
      have hk1 : kc ≠ -1 := by rw [← hk]; exact chn_ne hjc
      have hsucc := chn_succ L (L.length + 1) nd.first j hjc
      rw [hk] at hsucc
      obtain ⟨f', nx, x1, x2, x3, x4, x5, y0, y1, y2, y3, y4⟩ := hVI
      rw [hk] at x2
      obtain ⟨f'', rfl, rfl, hnx, k2, hb2, hk2⟩ := kl_open x2 hk1
      have hnb : ¬ BadK L (L.length + 1) (chn L (L.length + 1) nd.first) j := by
        unfold BadK
        rw [hk]
        exact fun h => h ⟨by omega, by omega, by omega⟩
      have hs2 := hsucc hnb
      rw [Int.toNat_natCast] at hs2
      rw [← hs2] at hk2
      obtain ⟨_, _, hk3, hk4⟩ := beh_open hb2
      have hk2e := (kl_ge L _ _ _ _ _ hk2).1
      have HSU := Lib.hid hk2
      have HNB := Lib.hid hnb
      have HB2 := Lib.hid hb2
      have X5 := Lib.hid x5
      have HK := Lib.hid y3
      have hN2 : NdsIn X (some ⟨b, off, none⟩) L := by
        have h1 : NdsIn W (some ⟨b, off, none⟩) L := HNW.out
        exact h1.keeps y3 (.inl hkb) (by omega)
      have HN2 := Lib.hid hN2
      clear g0 g1 g2 g4 g5 hj hjc hEj hsucc hk hs2 hk2 hnb hb2 x5 y3 x2 hN2
      gi_wp2
      refine ⟨trivial, ?_⟩
      intro X2 hg2
      have hne : ∀ i, i < X3.heap.size → some i ≠ some (X3.heap.size + 1) := fun i hi e => by injection e; omega
      have z0 := y0.kept hg2 (hne _ (by omega))
      have z1 := y1.kept hg2 (hne _ (by omega))
      have z2 := y2.kept hg2 (hne _ (by omega))
      have hz2 := hg2.size
      have hJ2 : J nx X2 := HJA.out _ _ _ _ X5.out hg2 (fun r e => by injection e; exact ⟨by omega, rfl⟩)
      have hN2 : NdsIn X2 (some ⟨b, off, none⟩) L := HN2.out.keeps (keepsAt_grown (ks := fun i => i = b) hg2 (fun i hi => by subst hi; exact ⟨by omega, fun e => by injection e; omega⟩)) rfl hz2
      have hK2 : KeepsAt (fun i => ks i ∨ (M0 ≤ i ∧ i < W.heap.size)) W X2 := HK.out.trans (keepsAt_grown hg2 (fun i hi => by rcases hi with h | h; exact ⟨by have := hks i h; omega, hne _ (by have := hks i h; omega)⟩; exact ⟨by omega, hne _ (by omega)⟩))
      have HI2 := HIH.out f'' m nx k2 X2 (by omega) HB2.out (by omega) (by omega) (by omega) hJ2 hN2
      have HI := Lib.hid (fun m' => HIH.out f'' m' nx k2 X2 (by omega) HB2.out (by omega) (by omega) (by omega) hJ2 hN2)
      have HK2 := Lib.hid hK2
      have t0 := z0.cell1
      have t1 := z1.cell1
      clear y0 y1 y2 hg2 hJ2 hN2 hK2 HI2 X5 HK HN2
      gi_wp2_with fail
      refine ⟨(fun h => by cases h), (CallsIn.inRound _ (HI.out _)).mono ?_⟩
      rintro e Y (⟨rfl, hJy, hKy, hzy⟩ | ⟨rfl, ⟨j2, hXy⟩, hKy, hzy⟩)
      · have hKI : ∀ i, i < X2.heap.size → M0 ≤ i → (fun k => ks k ∨ (M0 ≤ k ∧ k < X2.heap.size)) i := fun i h1 h2 => .inr ⟨h2, h1⟩
        have u0 := z0.keeps hKy (hKI _ (by omega) (by omega))
        have u1 := z1.keeps hKy (hKI _ (by omega) (by omega))
        have u2 := z2.keeps hKy (hKI _ (by omega) (by omega))
        have HJy := Lib.hid hJy
        have HKy := Lib.hid hKy
        have HKI := Lib.hid hKI
        clear hJy hKy hKI z0 z1 z2 t0 t1
        gi_wp2_with fail
        exact ⟨⟨HKy.out _ (HKI.out _ (by omega) (by omega)), HKy.out _ (HKI.out _ (by omega) (by omega))⟩, HKy.out.mono' (fun i hi => by rcases hi with rfl | rfl | rfl; exact .inl hkb; exact .inr ⟨by omega, by omega⟩; exact .inr ⟨by omega, by omega⟩), hzy, HNB.out,
          f'', k2, by omega, HSU.out, by omega, by omega, HJy.out, u0, u1, u2, HK2.out.trans (HKy.out.mono' (fun i hi => by rcases hi with h | h; exact .inl h; exact .inr ⟨h.1, by omega⟩)), by omega⟩
      · have hKI : ∀ i, i < X2.heap.size → M0 ≤ i → (fun k => ks k ∨ (M0 ≤ k ∧ k < X2.heap.size)) i := fun i h1 h2 => .inr ⟨h2, h1⟩
        have u2 := z2.keeps hKy (hKI _ (by omega) (by omega))
        have HXy := Lib.hid hXy
        have HKy := Lib.hid hKy
        have HKI := Lib.hid hKI
        have U2 := Lib.hid u2
        have fz := u2.free 0
        have fc := u2.cell1
        clear hXy hKy hKI z0 z1 z2 t0 t1 u2
        gi_wp2_with fail
        obtain ⟨X1, hX1⟩ : ∃ X1, Y.setCell ⟨W.heap.size + 1 + 1, 0, none⟩ (.bool false) = X1 := ⟨_, rfl⟩
        have hg1 : Y.grownBy X1 (some (W.heap.size + 1 + 1)) := by rw [← hX1]; exact jgset Y (W.heap.size + 1 + 1) 0 _
        have hb1 : CBlk 4 X1 (W.heap.size + 1 + 1) [.bool false] := by rw [← hX1]; exact U2.out.set 0 (.bool false)
        rw [hX1]
        have hk1 : KeepsAt (fun i => (ks i ∨ (M0 ≤ i ∧ i < W.heap.size)) ∨ i = w1.heap.size ∨ i = w1.heap.size + 1 ∨ i = X3.heap.size ∨ i = X3.heap.size + 1) X2 X1 := (HKy.out.mono' (fun i hi => by rcases hi with (h | h) | h | h | h | h; exact .inl h; all_goals exact .inr ⟨by omega, by omega⟩)).trans (keepsAt_grown hg1 (fun i hi => ⟨by rcases hi with (h | h) | h | h | h | h; have := hks i h; all_goals omega, fun e => by injection e with e; rcases hi with (h | h) | h | h | h | h; have := hks i h; all_goals omega⟩))
        exact ⟨⟨hk1 _ (.inr (.inr (.inr (.inl rfl)))), hk1 _ (.inr (.inr (.inr (.inr rfl))))⟩, ⟨j2, HXA.out _ _ _ _ HXy.out hg1 (fun r e => by injection e; exact ⟨by omega, rfl⟩)⟩, hb1, HK2.out.trans (hk1.mono' (fun i hi => .inl hi)), by have := hg1.size; omega⟩
  · have hne : ∀ i, i < W0.heap.size → M0 ≤ i → (fun k => ks k ∨ (M0 ≤ k ∧ k < W0.heap.size)) i := fun i h1 h2 => .inr ⟨h2, h1⟩
    have r2 := s2.keeps hKw (hne _ (by omega) (by omega))
    have hKW : KeepsAt (fun i => ks i ∨ (M0 ≤ i ∧ i < W.heap.size)) W w1 := (KeepsAt.below hB0 (fun i hi => by rcases hi with h | h; have := hks i h; omega; omega)).trans (hKw.mono' (fun i hi => by rcases hi with h | h; exact .inl h; exact .inr (by omega)))
    have HKW := Lib.hid hKW
    have HXW := Lib.hid hXw
    have R2 := Lib.hid r2
    have fz := r2.free 0
    have fc := r2.cell1
    clear hy s0 s1 s2 t0 t1 HR HJ1 HN0 hXw hB0 hKw hKW hne r2
    gi_wp2_with fail
    obtain ⟨X1, hX1⟩ : ∃ X1, w1.setCell ⟨W.heap.size + 1 + 1, 0, none⟩ (.bool false) = X1 := ⟨_, rfl⟩
    have hg1 : w1.grownBy X1 (some (W.heap.size + 1 + 1)) := by rw [← hX1]; exact jgset w1 (W.heap.size + 1 + 1) 0 _
    have hb1 : CBlk 4 X1 (W.heap.size + 1 + 1) [.bool false] := by rw [← hX1]; exact R2.out.set 0 (.bool false)
    rw [hX1]
    refine ⟨_, res1 hb1 rfl _ rfl Tryz.isAgg4, ?_⟩
    exact .inr ⟨rfl, ⟨_, HXA.out _ _ _ _ HXW.out hg1 (fun r e => by injection e; exact ⟨by omega, rfl⟩)⟩, HKW.out.trans (keepsAt_grown hg1 (fun i hi => by rcases hi with h | h; exact ⟨by have := hks i h; omega, fun e => by injection e; have := hks i h; omega⟩; exact ⟨by omega, fun e => by injection e; omega⟩)), by have := hg1.size; omega⟩
theorem visit_in (L : List ND) (b off cap : Nat) (M0 lp : Nat) (ks : Nat → Prop) (J Jx : Nat → World → Prop) (hJ : AbJ M0 true J) (hX : AbJ M0 true Jx) (s e0 : Nat) (hY : YW M0 lp ks J Jx s e0) (hkb : ks b) (hks : ∀ k, ks k → k < M0) : ∀ (f n at_ k : Nat) (W : World), beh L f at_ = some k → s ≤ at_ → k ≤ e0 → M0 ≤ W.heap.size → J at_ W → NdsIn W (some ⟨b, off, none⟩) L →
    CallsIn Fence.wide n Tryz.prog 64 #[.slice (some ⟨b, off, none⟩) L.length cap, .int .i64 (at_ : Int), .func (.yield lp) #[] #[]] W (VPost M0 ks J Jx k W) := by
  intro f
  induction f using Nat.strongRecOn with
  | ind f ih => exact fun n at_ k W h1 h2 h3 h4 h5 h6 => visit_step L b off cap M0 lp ks J Jx hJ hX s e0 hY hkb hks f (fun f' n at_ k W hf' a1 a2 a3 a4 a5 a6 => ih f' hf' n at_ k W a1 a2 a3 a4 a5 a6) n at_ k W h1 h2 h3 h4 h5 h6
theorem below_any (p : Option Addr) (n c : Nat) (k : Int) (W : World) :
    Calls Tryz.prog 42 #[.slice p n c, .int .i64 k] W fun e w' => e = .returned (.func (.func 63) #[] #[.pointer (some ⟨W.heap.size, 0, none⟩), .pointer (some ⟨W.heap.size + 1, 0, none⟩)]) ∧ w' = (W.alloc (.cells #[.slice p n c] 23)).alloc (.cells #[.int .i64 k] 3) := by
  go_enter Tryz.func42, Tryz.ntmps42
  go_wp2
  go_ret
  exact ⟨rfl, rfl⟩
/-- The numbers from s to before e. -/
def numE (s e : Nat) : List (Array Value) := (List.range (e - s)).map fun i => #[.int .i64 ((s + i : Nat) : Int)]
theorem numE_len (s e : Nat) : (numE s e).length = e - s := by unfold numE; rw [List.length_map, List.length_range]
theorem numE_at (s e j : Nat) (hj : j < (numE s e).length) : (numE s e)[j] = #[.int .i64 ((s + j : Nat) : Int)] := by
  have h : (numE s e)[j]? = some #[.int .i64 ((s + j : Nat) : Int)] := by
    unfold numE
    rw [List.getElem?_map, List.getElem?_range (by rw [numE_len] at hj; exact hj)]
    rfl
  rw [List.getElem?_eq_getElem hj] at h
  injection h
theorem below_iter (L : List ND) (f s k : Nat) (hbe : beh L f s = some k) (b off cap b1 b2 : Nat) (ks : Nat → Prop) (w0 : World) (hN : NdsIn w0 (some ⟨b, off, none⟩) L) (h1 : CBlk 23 w0 b1 [.slice (some ⟨b, off, none⟩) L.length cap]) (h2 : CBlk 3 w0 b2 [.int .i64 (s : Int)]) (hkb : ks b) (hks : ∀ i, ks i → i < w0.heap.size) :
    IterN 63 #[.pointer (some ⟨b1, 0, none⟩), .pointer (some ⟨b2, 0, none⟩)] (numE s k) ks w0 := by
  intro n lp J Jx W hW hJ hX hY h0
  have hsk := (beh_open hbe).2.2.1
  have w1 := h1.below hW h1.lt
  have w2 := h2.below hW h2.lt
  have wN : NdsIn W (some ⟨b, off, none⟩) L := CellsIn.below hN hW (Nat.le_refl _)
  have c1 := w1.cell1
  have c2 := w2.cell1
  have hWs := hW.size
  have hV := fun n' => visit_in L b off cap W.heap.size lp ks (fun j X => J (j - s) X) (fun j X => Jx (j - s) X) (fun j X X' row => hJ (j - s) X X' row) (fun j X X' row => hX (j - s) X X' row) s k (by
    intro j hj1 hj2 m X hJX hz
    have hY' := hY (j - s) (by rw [numE_len]; omega) m X hJX hz
    rw [numE_at, show s + (j - s) = j by omega] at hY'
    dsimp only
    rw [show j + 1 - s = j - s + 1 by omega]
    exact hY') hkb (fun i hi => by have := hks i hi; omega) f n' s k W hbe (Nat.le_refl _) (Nat.le_refl _) (Nat.le_refl _) (by rw [Nat.sub_self]; exact h0) wN
  have HV := Lib.hid hV
  rw [numE_len]
  clear hV hY hJ hX hN wN h0 hW h1 h2
  refine callsIn_of_wp Tryz.func63 rfl trivial ?_ rfl
  simp only [Tryz.ntmps63, List.size_toArray, List.length_cons, List.length_nil, Nat.reduceAdd, Nat.reduceSub, Array.replicate_succ, Array.replicate_zero, List.push_toArray, List.append_toArray, List.nil_append, List.cons_append]
  gi_wp2_with fail
  refine ⟨(fun h => by cases h), (HV.out _).mono ?_⟩
  rintro e w' (⟨rfl, hJw, _, _⟩ | ⟨rfl, ⟨j, hXw⟩, _, _⟩)
  · gi_wp2
    go_end0
    exact ⟨⟨_, rfl⟩, .inl hJw⟩
  · gi_wp2
    go_end0
    exact ⟨⟨_, rfl⟩, .inr ⟨_, hXw⟩⟩
end Go.Proofs.YtdnbnigebejgjaaGreatDoor
namespace Go.Proofs.YtdnbnigebejgjaaGreatDoor
open Go.RowKit Go.Shelf
attribute [local go_sem] Oper.semAt_some Oper.askedIn wide_fn
/-- The first node with this group, if there is one. -/
def plc (L : List ND) (g : Int) : Option Nat := L.findIdx? (fun n => decide (n.group = g))
theorem plc_some {L : List ND} {g : Int} {j : Nat} (hj : j < L.length) (h : (L.getD j (bare 0 .empty 0)).group = g) (hp : ∀ i, i < j → (L.getD i (bare 0 .empty 0)).group ≠ g) : plc L g = some j := by
  unfold plc
  rw [List.findIdx?_eq_some_iff_getElem]
  have e : ∀ i (hi : i < L.length), L.getD i (bare 0 .empty 0) = L[i] := fun i hi => by rw [List.getD_eq_getElem?_getD, List.getElem?_eq_getElem hi]; rfl
  refine ⟨hj, decide_eq_true (by rw [← e j hj]; exact h), fun i hi => ?_⟩
  have := hp i hi
  rw [e i (by omega)] at this
  simpa using this
theorem plc_none {L : List ND} {g : Int} (hp : ∀ i, i < L.length → (L.getD i (bare 0 .empty 0)).group ≠ g) : plc L g = none := by
  unfold plc
  rw [List.findIdx?_eq_none_iff]
  intro n hn
  obtain ⟨i, hi, rfl⟩ := List.mem_iff_getElem.1 hn
  have := hp i hi
  rw [List.getD_eq_getElem?_getD, List.getElem?_eq_getElem hi] at this
  exact decide_eq_false this
def PlI (L : List ND) (g : Int) (sl : Value) (W : World) (M j : Nat) (X : World) : Prop :=
  (∀ i, i < j → (L.getD i (bare 0 .empty 0)).group ≠ g) ∧ CBlk 23 X W.heap.size [sl] ∧ CBlk 3 X (W.heap.size + 1) [.int .i64 g] ∧ CBlk 3 X (W.heap.size + 1 + 1) [.int .i64 0] ∧ Below W.heap.size W X ∧ M ≤ X.heap.size
def PlX (L : List ND) (g : Int) (W : World) (M : Nat) (X : World) : Prop := CBlk 3 X (W.heap.size + 1 + 1) [.int .i64 (optI (plc L g))] ∧ Below W.heap.size W X ∧ M ≤ X.heap.size
set_option maxHeartbeats 8000000 in
set_option maxRecDepth 100000 in
theorem placeOf_any (L : List ND) (f : Nat) (hbe : beh L f 0 = some L.length) (b off cap : Nat) (g : Int) (W : World) (hN : NdsIn W (some ⟨b, off, none⟩) L) (hb : b < W.heap.size) :
    Calls Tryz.prog 67 #[.slice (some ⟨b, off, none⟩) L.length cap, .int .i64 g] W fun e w' => e = .returned (.int .i64 (optI (plc L g))) ∧ Below W.heap.size W w' := by
  suffices h : ∀ n, CallsIn Fence.wide n Tryz.prog 67 #[.slice (some ⟨b, off, none⟩) L.length cap, .int .i64 g] W fun e w' => e = .returned (.int .i64 (optI (plc L g))) ∧ Below W.heap.size W w' from callsIn_wide.1 (h 0)
  intro n
  generalize hW0 : ((W.alloc (.cells #[.slice (some ⟨b, off, none⟩) L.length cap] 23)).alloc (.cells #[.int .i64 g] 3)).alloc (.cells #[.int .i64 0] 3) = W0
  have s0 : CBlk 23 W0 W.heap.size [.slice (some ⟨b, off, none⟩) L.length cap] := by rw [← hW0]; exact ((CBlk.new _ W _).alloc _).alloc _
  have s1 : CBlk 3 W0 (W.heap.size + 1) [.int .i64 g] := by
    rw [← hW0]
    have := (CBlk.new 3 (W.alloc (.cells #[.slice (some ⟨b, off, none⟩) L.length cap] 23)) [.int .i64 g]).alloc (.cells #[.int .i64 0] 3)
    rwa [World.size_alloc] at this
  have s2 : CBlk 3 W0 (W.heap.size + 1 + 1) [.int .i64 0] := by
    rw [← hW0]
    have := CBlk.new 3 ((W.alloc (.cells #[.slice (some ⟨b, off, none⟩) L.length cap] 23)).alloc (.cells #[.int .i64 g] 3)) [.int .i64 0]
    rwa [World.size_alloc, World.size_alloc] at this
  have hB0 : Below W.heap.size W W0 := by rw [← hW0]; exact (((Below.refl _ W).alloc (Nat.le_refl _) _).alloc (by simp) _).alloc (by simp; omega) _
  have hz0 : W0.heap.size = W.heap.size + 3 := by rw [← hW0]; simp
  have t0 := s0.cell1
  refine callsIn_of_wp_marks Tryz.func67 rfl trivial ?_ rfl
  simp only [Tryz.ntmps67, List.size_toArray, List.length_cons, List.length_nil, Nat.reduceAdd, Nat.reduceSub, Array.replicate_succ, Array.replicate_zero, List.push_toArray, List.append_toArray, List.nil_append, List.cons_append]
  gi_upto_region 1 with fail
  clear hW0
  gi_wp2_with fail
  refine ⟨(fun h => by cases h), (callsIn_wide.2 (below_any _ _ _ _ _)).mono ?_⟩
  rintro e w' ⟨rfl, rfl⟩
  generalize hX3 : (W0.alloc (.cells #[.slice (some ⟨b, off, none⟩) L.length cap] 23)).alloc (.cells #[.int .i64 0] 3) = X3
  have g0 := (s0.alloc (.cells #[.slice (some ⟨b, off, none⟩) L.length cap] 23)).alloc (.cells #[.int .i64 0] 3)
  have g1 := (s1.alloc (.cells #[.slice (some ⟨b, off, none⟩) L.length cap] 23)).alloc (.cells #[.int .i64 0] 3)
  have g2 := (s2.alloc (.cells #[.slice (some ⟨b, off, none⟩) L.length cap] 23)).alloc (.cells #[.int .i64 0] 3)
  have g4 : CBlk 23 X3 W0.heap.size [.slice (some ⟨b, off, none⟩) L.length cap] := by rw [← hX3]; exact (CBlk.new _ W0 _).alloc _
  have g5 : CBlk 3 X3 (W0.heap.size + 1) [.int .i64 ((0 : Nat) : Int)] := by
    rw [← hX3]
    have := CBlk.new 3 (W0.alloc (.cells #[.slice (some ⟨b, off, none⟩) L.length cap] 23)) [.int .i64 0]
    rwa [World.size_alloc] at this
  rw [hX3] at g0 g1 g2
  rw [hz0] at g4 g5
  have hB3 : Below W.heap.size W X3 := by rw [← hX3]; exact (hB0.alloc (by omega) _).alloc (by simp; omega) _
  have hz3 : X3.heap.size = W0.heap.size + 2 := by rw [← hX3]; simp
  have hN3 : NdsIn X3 (some ⟨b, off, none⟩) L := CellsIn.below hN hB3 (Nat.le_refl _)
  have HNW := Lib.hid hN
  have HB3 := Lib.hid hB3
  clear hX3 s0 s1 s2 t0 hB0 hB3 hN
  gi_wp2_with fail
  refine rangeN (fid := 63) (lb := #[.pointer (some ⟨W.heap.size + 3, 0, none⟩), .pointer (some ⟨W.heap.size + 3 + 1, 0, none⟩)]) (E := numE 0 L.length) (ks := fun k => k = b)
    rfl (enters_of Tryz.func63 (by kernel_rfl) rfl) (fun j hj => by simp [numE]) ?iter (fun k hk => by omega)
    (PlI L g (.slice (some ⟨b, off, none⟩) L.length cap) W X3.heap.size) (PlX L g W X3.heap.size) ?hI ?hIx ?h0 ?round ?done ?stop
  case iter => exact below_iter L f 0 L.length hbe b off cap (W.heap.size + 3) (W.heap.size + 3 + 1) (fun k => k = b) X3 hN3 g4 g5 rfl (fun i hi => by omega)
  case hI =>
    rintro j X X' row ⟨x1, y0, y1, y2, y3, y4⟩ hg hr
    have hne : ∀ i, i < X3.heap.size → some i ≠ row := fun i hi e => by have := (hr i e.symm); omega
    exact ⟨x1, y0.kept hg (hne _ (by omega)), y1.kept hg (hne _ (by omega)), y2.kept hg (hne _ (by omega)), y3.grown hg (by omega) (fun r e => by have := hr r e; omega), Nat.le_trans y4 hg.size⟩
  case hIx =>
    rintro X X' row ⟨y2, y3, y4⟩ hg hr
    have hne : ∀ i, i < X3.heap.size → some i ≠ row := fun i hi e => by have := (hr i e.symm); omega
    exact ⟨y2.kept hg (hne _ (by omega)), y3.grown hg (by omega) (fun r e => by have := hr r e; omega), Nat.le_trans y4 hg.size⟩
  case h0 => exact ⟨fun i hi => absurd hi (by omega), g0, g1, g2, HB3.out, Nat.le_refl _⟩
  case done =>
    rintro X ⟨x1, y0, y1, y2, y3, y4⟩ hz hD
    rw [numE_len] at x1
    have hres : plc L g = none := plc_none (fun i hi => x1 i (by omega))
    have HRS := Lib.hid hres
    have HD := Lib.hid hD
    have Y2 := Lib.hid y2
    have Y3 := Lib.hid y3
    have c2 := y2.cell1
    have fz2 := y2.free 0
    clear g0 g1 g2 g4 g5 x1 hD y0 y1 y2 y3 hN3 hres
    gi_wp2_with fail
    have hb1 := Y2.out.set 0 (.int .i64 (-1))
    have hB1 := Y3.out.setCell (p := ⟨W.heap.size + 1 + 1, 0, none⟩) (by show W.heap.size ≤ W.heap.size + 1 + 1; omega) (.int .i64 (-1))
    have hD1 : (X.setCell ⟨W.heap.size + 1 + 1, 0, none⟩ (.int .i64 (-1))).heap[X3.heap.size]? = some (.deferred (some [])) := (Below.heap_setCell _ _ _ _ (by show X3.heap.size ≠ W.heap.size + 1 + 1; omega)).trans HD.out
    have hgp := grownBy_putObj' (X.setCell ⟨W.heap.size + 1 + 1, 0, none⟩ (.int .i64 (-1))) X3.heap.size (.deferred none)
    refine ⟨by simp, .inl ⟨_, _, rfl, run_takeDeferred hD1, ?_⟩⟩
    refine ⟨_, res1 (hb1.kept hgp (fun e => by injection e; omega)) rfl _ rfl Tryz.isAgg3, by rw [HRS.out]; rfl, hB1.grown hgp (by have := hB1.size; omega) (fun r hr => by injection hr; omega)⟩
  case stop =>
    rintro X ⟨y2, y3, y4⟩ hD
    have HD := Lib.hid hD
    have Y2 := Lib.hid y2
    have Y3 := Lib.hid y3
    clear g0 g1 g2 g4 g5 hD y2 y3 hN3
    gi_wp2_with fail
    have hgp := grownBy_putObj' X X3.heap.size (.deferred none)
    refine ⟨by simp, .inl ⟨_, _, rfl, run_takeDeferred HD.out, ?_⟩⟩
    refine ⟨_, res1 (Y2.out.kept hgp (fun e => by injection e; omega)) rfl _ rfl Tryz.isAgg3, rfl, Y3.out.grown hgp (by have := Y3.out.size; omega) (fun r hr => by injection hr; omega)⟩
  case round =>
    rintro j hj m X ⟨x1, y0, y1, y2, y3, y4⟩ hz
    rw [numE_at]
    rw [numE_len] at hj
    have hjl : j < L.length := by omega
    have X1 := Lib.hid x1
    have HNX : NdsIn X (some ⟨b, off, none⟩) L := CellsIn.below HNW.out y3 (Nat.le_refl _)
    rw [Nat.zero_add]
    clear g0 g1 g2 g4 g5 hN3 x1 hj
    gi_wp2
    refine ⟨trivial, ?_⟩
    intro X2 hg2
    have hne : ∀ i, i < X3.heap.size → some i ≠ some (X3.heap.size + 1) := fun i hi e => by injection e; omega
    have z0 := y0.kept hg2 (hne _ (by omega))
    have z1 := y1.kept hg2 (hne _ (by omega))
    have z2 := y2.kept hg2 (hne _ (by omega))
    have z3 := y3.grown hg2 (by omega) (fun r e => by injection e; omega)
    have hz2 := hg2.size
    have hN2 : NdsIn X2 (some ⟨b, off, none⟩) L := CellsIn.below HNW.out z3 (Nat.le_refl _)
    have t0 := z0.cell1
    have t1 := z1.cell1
    have c6 := nd_cells hN2 hjl 6 (by omega)
    obtain ⟨x, hx⟩ : ∃ x, (L[j]).group = x := ⟨_, rfl⟩
    have hc6 : (ndC L[j]).getD 6 (.int .i64 0) = .int .i64 x := by rw [← hx]; rfl
    rw [hc6] at c6
    have hgx : (L.getD j (bare 0 .empty 0)).group = x := by rw [List.getD_eq_getElem?_getD, List.getElem?_eq_getElem hjl]; exact hx
    have hb1 : (j : Int) < (L.length : Int) := by omega
    obtain ⟨q, hq⟩ : ∃ q, decide (x = g) = q := ⟨_, rfl⟩
    have hq2 : (x == g) = q := by rw [← hq]; rfl
    have HQ := Lib.hid hq
    have HGX := Lib.hid hgx
    have Z3 := Lib.hid z3
    clear y0 y1 y2 y3 hg2 hc6 hx hq hgx HNX hN2 z3
    gi_wp2_with fail
    refine quiet_round rfl (by kernel_rfl) (by kernel_rfl) (by kernel_rfl) ?_
    repeat (gi_big_quiet_step (fail))
    refine wpQuietIn_nil ?_
    intro _ hw'
    obtain ⟨nq, rfl⟩ := hw'
    have hbn : Below X2.heap.size X2 (X2.drewN nq) := below_drewN (Below.refl _ _) nq
    generalize hYY : X2.drewN nq = Y at hbn ⊢
    clear hYY t0 t1 c6
    have u0 := z0.below hbn z0.lt
    have u1 := z1.below hbn z1.lt
    have u2 := z2.below hbn z2.lt
    have u3 := Z3.out.trans (hbn.mono (by have := Z3.out.size; omega))
    have hYs := hbn.size
    have hKY : KeepsAt (fun k => k < X2.heap.size) X2 Y := KeepsAt.below hbn (fun k hk => hk)
    have HKY := Lib.hid hKY
    have U3 := Lib.hid u3
    clear z0 z1 z2 hbn u3 hKY
    cases q with
    | false =>
      gi_wp2_with fail
      exact ⟨⟨HKY.out _ (by omega), HKY.out _ (by omega)⟩, HKY.out.mono' (fun i hi => by rcases hi with rfl | h; omega; omega), hYs, (fun i hi => by
        by_cases e : i = j
        · subst e; rw [HGX.out]; exact of_decide_eq_false HQ.out
        · exact X1.out i (by omega)), u0, u1, u2, U3.out, by omega⟩
    | true =>
      have hres : plc L g = some j := plc_some hjl (by rw [HGX.out]; exact of_decide_eq_true HQ.out) X1.out
      have HRS := Lib.hid hres
      have c2 := u2.cell1
      have fz2 := u2.free 0
      clear hres
      gi_wp2_with fail
      have hb1 := u2.set 0 (.int .i64 (j : Int))
      have hg1 : Y.grownBy (Y.setCell ⟨W.heap.size + 1 + 1, 0, none⟩ (.int .i64 (j : Int))) (some (W.heap.size + 1 + 1)) := jgset Y (W.heap.size + 1 + 1) 0 _
      have hK1 : KeepsAt (fun k => k < X2.heap.size ∧ k ≠ W.heap.size + 1 + 1) X2 (Y.setCell ⟨W.heap.size + 1 + 1, 0, none⟩ (.int .i64 (j : Int))) := (HKY.out.mono' (fun k hk => hk.1)).trans (keepsAt_grown hg1 (fun k hk => ⟨by omega, fun e => by injection e; omega⟩))
      exact ⟨⟨hK1 _ (by omega), hK1 _ (by omega)⟩, hK1.mono' (fun i hi => by rcases hi with rfl | h; omega; omega), by have := hg1.size; omega, (by show CBlk 3 _ _ [.int .i64 (optI (plc L g))]; rw [HRS.out]; exact hb1), U3.out.setCell (p := ⟨W.heap.size + 1 + 1, 0, none⟩) (by show W.heap.size ≤ W.heap.size + 1 + 1; omega) _, by have := hg1.size; omega⟩
end Go.Proofs.YtdnbnigebejgjaaGreatDoor
namespace Go.Proofs.YtdnbnigebejgjaaGreatDoor
open Go.RowKit Go.Shelf
attribute [local go_sem] Oper.semAt_some Oper.askedIn wide_fn
theorem kl_mono {L : List ND} : ∀ (f : Nat) (kd : Int) (nx : Nat) (c : Int) (e : Nat), kl L f kd nx c = some e → kl L (f + 1) kd nx c = some e
  | 0, kd, nx, c, e, h => by
    by_cases hc : c = -1
    · subst hc; unfold kl at h ⊢; rw [if_pos rfl] at h ⊢; exact h
    · obtain ⟨f', hf, _⟩ := kl_open h hc
      omega
  | f + 1, kd, nx, c, e, h => by
    by_cases hc : c = -1
    · subst hc; unfold kl at h ⊢; rw [if_pos rfl] at h ⊢; exact h
    · rw [kl, if_neg hc] at h
      rw [kl, if_neg hc]
      split at h
      · rename_i hlt
        rw [dif_pos hlt]
        split at h
        · rename_i hh
          rw [if_pos hh]
          cases hq : kl L f L[nx].kind (nx + 1) L[nx].first with
          | none => rw [hq] at h; cases h
          | some k2 =>
            rw [hq] at h
            rw [kl_mono f _ _ _ _ hq]
            exact kl_mono f _ _ _ _ h
        · cases h
      · cases h
theorem kl_up {L : List ND} {f f' : Nat} (hf : f ≤ f') {kd : Int} {nx : Nat} {c : Int} {e : Nat} (h : kl L f kd nx c = some e) : kl L f' kd nx c = some e := by
  induction f' with
  | zero => rwa [show f = 0 by omega] at h
  | succ f' ih =>
    by_cases e : f = f' + 1
    · rwa [e] at h
    · exact kl_mono _ _ _ _ _ (ih (by omega))
theorem beh_up {L : List ND} {f f' : Nat} (hf : f ≤ f') {p e : Nat} (h : beh L f p = some e) : beh L f' p = some e := by
  unfold beh at h ⊢
  split at h
  · rename_i hlt
    rw [dif_pos hlt]
    split at h
    · rename_i hs
      rw [if_pos hs]
      exact kl_up hf h
    · cases h
  · cases h
theorem kl_all {L : List ND} : ∀ (f : Nat) (kd : Int) (nx : Nat) (c : Int) (e : Nat), kl L f kd nx c = some e → ∀ p, nx ≤ p → p < e → ∃ k, beh L f p = some k ∧ p < k ∧ k ≤ e
  | f, kd, nx, c, e, h => by
    intro p hp he
    by_cases hc : c = -1
    · subst hc
      have : kl L f kd nx (-1) = some nx := by cases f <;> rfl
      rw [this] at h
      injection h with h
      omega
    · obtain ⟨f', rfl, _, hlt, k2, hb, hk⟩ := kl_open h hc
      obtain ⟨_, h1, h2, h3⟩ := beh_open hb
      have h4 := (kl_ge L _ _ _ _ _ hk).1
      by_cases e1 : p = nx
      · subst e1
        exact ⟨k2, beh_up (by omega) hb, h2, h4⟩
      · by_cases e2 : p < k2
        · obtain ⟨k, a, b, c⟩ := kl_all f' _ _ _ _ h1 p (by omega) e2
          exact ⟨k, beh_up (by omega) a, b, by omega⟩
        · obtain ⟨k, a, b, c⟩ := kl_all f' _ _ _ _ hk p (by omega) he
          exact ⟨k, beh_up (by omega) a, b, c⟩
termination_by f => f
theorem beh_all {L : List ND} {f s e : Nat} (h : beh L f s = some e) : ∀ p, s ≤ p → p < e → ∃ k, beh L f p = some k ∧ p < k ∧ k ≤ e := by
  intro p hp he
  obtain ⟨_, h1, h2, h3⟩ := beh_open h
  by_cases e1 : p = s
  · subst e1; exact ⟨e, h, h2, Nat.le_refl _⟩
  · exact kl_all f _ _ _ _ h1 p (by omega) he
/-- Is the group inner the group outer, or does it lie in it? -/
def hdB (L : List ND) (o i : Int) : Bool := match plc L o with
  | none => false
  | some p => match beh L L.length p with
    | none => false
    | some k => decide ((p : Int) ≤ optI (plc L i) ∧ optI (plc L i) < (k : Int))
def HdI (p : Nat) (pl : Int) (W : World) (N M j : Nat) (X : World) : Prop :=
  (∀ i, i < j → ((p + i : Nat) : Int) ≠ pl) ∧ CBlk 4 X W.heap.size [.bool false] ∧ CBlk 3 X N [.int .i64 pl] ∧ Below W.heap.size W X ∧ M ≤ X.heap.size
def HdX (r : Bool) (W : World) (M : Nat) (X : World) : Prop := CBlk 4 X W.heap.size [.bool r] ∧ Below W.heap.size W X ∧ M ≤ X.heap.size
set_option maxHeartbeats 8000000 in
set_option maxRecDepth 100000 in
theorem holds_any (L : List ND) (hbe : beh L L.length 0 = some L.length) (b off cap : Nat) (o i : Int) (p : Nat) (hpo : plc L o = some p) (W : World) (hN : NdsIn W (some ⟨b, off, none⟩) L) (hb : b < W.heap.size) :
    Calls Tryz.prog 48 #[.slice (some ⟨b, off, none⟩) L.length cap, .int .i64 o, .int .i64 i] W fun e w' => e = .returned (.bool (hdB L o i)) ∧ Below W.heap.size W w' := by
  suffices h : ∀ n, CallsIn Fence.wide n Tryz.prog 48 #[.slice (some ⟨b, off, none⟩) L.length cap, .int .i64 o, .int .i64 i] W fun e w' => e = .returned (.bool (hdB L o i)) ∧ Below W.heap.size W w' from callsIn_wide.1 (h 0)
  intro n
  have hpl : p < L.length := by
    unfold plc at hpo
    rw [List.findIdx?_eq_some_iff_getElem] at hpo
    exact hpo.1
  obtain ⟨k, hk, hpk, hkL⟩ := beh_all hbe p (by omega) hpl
  obtain ⟨pl, hpi⟩ : ∃ pl, optI (plc L i) = pl := ⟨_, rfl⟩
  have HR : Hid (hdB L o i = decide ((p : Int) ≤ pl ∧ pl < (k : Int))) := Lib.hid (by unfold hdB; rw [hpo]; dsimp only; rw [hk]; dsimp only; rw [hpi])
  have HPO := fun w h1 h2 => placeOf_any L L.length hbe b off cap o w h1 h2
  have HPI := fun w h1 h2 => placeOf_any L L.length hbe b off cap i w h1 h2
  rw [hpo] at HPO
  rw [hpi] at HPI
  have HPO' := Lib.hid HPO
  have HPI' := Lib.hid HPI
  have HNW := Lib.hid hN
  clear HPO HPI hpo hpi hN
  refine callsIn_of_wp_marks Tryz.func48 rfl trivial ?_ rfl
  simp only [Tryz.ntmps48, List.size_toArray, List.length_cons, List.length_nil, Nat.reduceAdd, Nat.reduceSub, Array.replicate_succ, Array.replicate_zero, List.push_toArray, List.append_toArray, List.nil_append, List.cons_append]
  gi_upto_region 1 with fail
  generalize hW0 : W.alloc (.cells #[.bool false] 4) = W0
  have s0 : CBlk 4 W0 W.heap.size [.bool false] := by rw [← hW0]; exact CBlk.new _ W _
  have hB0 : Below W.heap.size W W0 := by rw [← hW0]; exact (Below.refl _ W).alloc (Nat.le_refl _) _
  have hz0 : W0.heap.size = W.heap.size + 1 := by rw [← hW0]; simp
  clear hW0
  gi_wp2_with fail
  refine ⟨(fun h => by cases h), (callsIn_wide.2 (HPI'.out _ (CellsIn.below HNW.out hB0 (Nat.le_refl _)) (by omega))).mono ?_⟩
  rintro e w1 ⟨rfl, hB1⟩
  have s1 := s0.below hB1 s0.lt
  have hBW := hB0.trans (hB1.mono (by omega))
  have hz1 := hB1.size
  clear s0 hB0 hB1
  gi_upto_region 2 with fail
  generalize hw2 : w1.alloc (.cells #[.int .i64 pl] 3) = w2
  have s2 : CBlk 4 w2 W.heap.size [.bool false] := by rw [← hw2]; exact s1.alloc _
  have q2 : CBlk 3 w2 w1.heap.size [.int .i64 pl] := by rw [← hw2]; exact CBlk.new _ w1 _
  have hB2 : Below W.heap.size W w2 := by rw [← hw2]; exact hBW.alloc (by omega) _
  have hz2 : w2.heap.size = w1.heap.size + 1 := by rw [← hw2]; simp
  clear hw2 s1 hBW
  gi_wp2_with fail
  refine ⟨(fun h => by cases h), (callsIn_wide.2 (HPO'.out _ (CellsIn.below HNW.out hB2 (Nat.le_refl _)) (by omega))).mono ?_⟩
  rintro e w3 ⟨rfl, hB3⟩
  have s3 := s2.below hB3 s2.lt
  have q3 := q2.below hB3 q2.lt
  have hBW := hB2.trans (hB3.mono (by omega))
  have hz3 := hB3.size
  clear s2 q2 hB2 hB3
  have hop : optI (some p) = (p : Int) := rfl
  rw [hop]
  gi_wp2_with fail
  refine ⟨(fun h => by cases h), (callsIn_wide.2 (below_any _ _ _ _ _)).mono ?_⟩
  rintro e w' ⟨rfl, rfl⟩
  generalize hX3 : (w3.alloc (.cells #[.slice (some ⟨b, off, none⟩) L.length cap] 23)).alloc (.cells #[.int .i64 (p : Int)] 3) = X3
  have g0 := (s3.alloc (.cells #[.slice (some ⟨b, off, none⟩) L.length cap] 23)).alloc (.cells #[.int .i64 (p : Int)] 3)
  have g1 := (q3.alloc (.cells #[.slice (some ⟨b, off, none⟩) L.length cap] 23)).alloc (.cells #[.int .i64 (p : Int)] 3)
  have g4 : CBlk 23 X3 w3.heap.size [.slice (some ⟨b, off, none⟩) L.length cap] := by rw [← hX3]; exact (CBlk.new _ w3 _).alloc _
  have g5 : CBlk 3 X3 (w3.heap.size + 1) [.int .i64 (p : Int)] := by
    rw [← hX3]
    have := CBlk.new 3 (w3.alloc (.cells #[.slice (some ⟨b, off, none⟩) L.length cap] 23)) [.int .i64 (p : Int)]
    rwa [World.size_alloc] at this
  rw [hX3] at g0 g1
  have hBX : Below W.heap.size W X3 := by rw [← hX3]; exact (hBW.alloc (by omega) _).alloc (by simp; omega) _
  have hzX : X3.heap.size = w3.heap.size + 2 := by rw [← hX3]; simp
  have hN3 : NdsIn X3 (some ⟨b, off, none⟩) L := CellsIn.below HNW.out hBX (Nat.le_refl _)
  have HBX := Lib.hid hBX
  clear hX3 s3 q3 hBW hBX
  gi_wp2_with fail
  refine rangeN (fid := 63) (lb := #[.pointer (some ⟨w3.heap.size, 0, none⟩), .pointer (some ⟨w3.heap.size + 1, 0, none⟩)]) (E := numE p k) (ks := fun k => k = b)
    rfl (enters_of Tryz.func63 (by kernel_rfl) rfl) (fun j hj => by simp [numE]) ?iter (fun k hk => by omega)
    (HdI p pl W w1.heap.size X3.heap.size) (HdX (hdB L o i) W X3.heap.size) ?hI ?hIx ?h0 ?round ?done ?stop
  case iter => exact below_iter L L.length p k hk b off cap w3.heap.size (w3.heap.size + 1) (fun k => k = b) X3 hN3 g4 g5 rfl (fun i hi => by omega)
  case hI =>
    rintro j X X' row ⟨x1, y0, y1, y3, y4⟩ hg hr
    have hne : ∀ i, i < X3.heap.size → some i ≠ row := fun i hi e => by have := (hr i e.symm); omega
    exact ⟨x1, y0.kept hg (hne _ (by omega)), y1.kept hg (hne _ (by omega)), y3.grown hg (by omega) (fun r e => by have := hr r e; omega), Nat.le_trans y4 hg.size⟩
  case hIx =>
    rintro X X' row ⟨y2, y3, y4⟩ hg hr
    have hne : ∀ i, i < X3.heap.size → some i ≠ row := fun i hi e => by have := (hr i e.symm); omega
    exact ⟨y2.kept hg (hne _ (by omega)), y3.grown hg (by omega) (fun r e => by have := hr r e; omega), Nat.le_trans y4 hg.size⟩
  case h0 => exact ⟨fun i hi => absurd hi (by omega), g0, g1, HBX.out, Nat.le_refl _⟩
  case done =>
    rintro X ⟨x1, y0, y1, y3, y4⟩ hz hD
    rw [numE_len] at x1
    have hres : hdB L o i = false := by
      rw [HR.out]
      refine decide_eq_false (fun ⟨h1, h2⟩ => ?_)
      have := x1 (pl.toNat - p) (by omega)
      omega
    have HRS := Lib.hid hres
    have HD := Lib.hid hD
    have Y0 := Lib.hid y0
    have Y3 := Lib.hid y3
    have c2 := y0.cell1
    have fz2 := y0.free 0
    clear g0 g1 g4 g5 x1 hD y0 y1 y3 hN3 hres
    gi_wp2_with fail
    have hb1 := Y0.out.set 0 (.bool false)
    have hB1 := Y3.out.setCell (p := ⟨W.heap.size, 0, none⟩) (Nat.le_refl _) (.bool false)
    have hD1 : (X.setCell ⟨W.heap.size, 0, none⟩ (.bool false)).heap[X3.heap.size]? = some (.deferred (some [])) := (Below.heap_setCell _ _ _ _ (by show X3.heap.size ≠ W.heap.size; omega)).trans HD.out
    have hgp := grownBy_putObj' (X.setCell ⟨W.heap.size, 0, none⟩ (.bool false)) X3.heap.size (.deferred none)
    refine ⟨by simp, .inl ⟨_, _, rfl, run_takeDeferred hD1, ?_⟩⟩
    refine ⟨_, res1 (hb1.kept hgp (fun e => by injection e; omega)) rfl _ rfl Tryz.isAgg4, by rw [HRS.out], hB1.grown hgp (by have := hB1.size; omega) (fun r hr => by injection hr; omega)⟩
  case stop =>
    rintro X ⟨y2, y3, y4⟩ hD
    have HD := Lib.hid hD
    have Y2 := Lib.hid y2
    have Y3 := Lib.hid y3
    clear g0 g1 g4 g5 hD y2 y3 hN3
    gi_wp2_with fail
    have hgp := grownBy_putObj' X X3.heap.size (.deferred none)
    refine ⟨by simp, .inl ⟨_, _, rfl, run_takeDeferred HD.out, ?_⟩⟩
    refine ⟨_, res1 (Y2.out.kept hgp (fun e => by injection e; omega)) rfl _ rfl Tryz.isAgg4, rfl, Y3.out.grown hgp (by have := Y3.out.size; omega) (fun r hr => by injection hr; omega)⟩
  case round =>
    rintro j hj m X ⟨x1, y0, y1, y3, y4⟩ hz
    rw [numE_at]
    rw [numE_len] at hj
    obtain ⟨x, hx⟩ : ∃ x : Int, ((p + j : Nat) : Int) = x := ⟨_, rfl⟩
    rw [hx]
    have X1 := Lib.hid x1
    clear g0 g1 g4 g5 hN3 x1
    gi_wp2
    refine ⟨trivial, ?_⟩
    intro X2 hg2
    have hne : ∀ i, i < X3.heap.size → some i ≠ some (X3.heap.size + 1) := fun i hi e => by injection e; omega
    have z0 := y0.kept hg2 (hne _ (by omega))
    have z1 := y1.kept hg2 (hne _ (by omega))
    have z3 := y3.grown hg2 (by omega) (fun r e => by injection e; omega)
    have hzz := hg2.size
    have t1 := z1.cell1
    have c2 := z0.cell1
    have fz2 := z0.free 0
    obtain ⟨q, hq⟩ : ∃ q, decide (x = pl) = q := ⟨_, rfl⟩
    have hq2 : (x == pl) = q := by rw [← hq]; rfl
    have HQ := Lib.hid hq
    have HX := Lib.hid hx
    have Z3 := Lib.hid z3
    have Z0 := Lib.hid z0
    have Z1 := Lib.hid z1
    clear y0 y1 y3 hg2 hx hq z3 z0 z1
    cases q with
    | false =>
      gi_wp2_with fail
      exact ⟨⟨rfl, rfl⟩, KeepsAt.refl _ _, Nat.le_refl _, (fun i hi => by
        by_cases e : i = j
        · subst e; rw [HX.out]; exact of_decide_eq_false HQ.out
        · exact X1.out i (by omega)), Z0.out, Z1.out, Z3.out, by omega⟩
    | true =>
      have hres : hdB L o i = true := by
        have h1 : x = pl := of_decide_eq_true HQ.out
        have h2 := HX.out
        rw [HR.out]
        exact decide_eq_true (by omega)
      have HRS := Lib.hid hres
      clear hres
      gi_wp2_with fail
      have hb1 := Z0.out.set 0 (.bool true)
      have hg1 : X2.grownBy (X2.setCell ⟨W.heap.size, 0, none⟩ (.bool true)) (some W.heap.size) := jgset X2 W.heap.size 0 _
      have hK1 : KeepsAt (fun k => k < X2.heap.size ∧ k ≠ W.heap.size) X2 (X2.setCell ⟨W.heap.size, 0, none⟩ (.bool true)) := keepsAt_grown hg1 (fun k hk => ⟨by omega, fun e => by injection e; omega⟩)
      exact ⟨⟨hK1 _ (by omega), hK1 _ (by omega)⟩, hK1.mono' (fun i hi => by rcases hi with rfl | h; omega; omega), by have := hg1.size; omega, (by show CBlk 4 _ _ [.bool (hdB L o i)]; rw [HRS.out]; exact hb1), Z3.out.setCell (p := ⟨W.heap.size, 0, none⟩) (Nat.le_refl _) _, by have := hg1.size; omega⟩
end Go.Proofs.YtdnbnigebejgjaaGreatDoor
