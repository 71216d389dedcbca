/-
  The parser of package pattern: its nodes in memory; a node more.
  The parser of package pattern: children are linked to their parents.
-/
import Derived.Test.YtdnbnigebejgjaaGreatDoorHJQ5
import Derived.Test.YtdnbnigebejgjaaGreatDoorHRng
import Derived.Laws.OwnMore
import Derived.Laws.AppendOwnNone
import Derived.Lib.ItoaMem
import Derived.WalkSmall
namespace Go.Proofs.YtdnbnigebejgjaaGreatDoor
open Go.RowKit
theorem own_slice {w : World} {base : Nat} {e : TypeId} {size n : Nat} {v : Value} {xs : List Value} (h : w.ownsRow base e size v n xs) : ∃ p c, v = .slice p n c := by
  rcases h.2 with ⟨rfl, rfl⟩ | ⟨g, cap, cur, rfl, _⟩
  · exact ⟨none, 0, rfl⟩
  · exact ⟨_, cap, rfl⟩
/-- A row of one's own as cells to read. -/
theorem cells_of_own {w : World} {base : Nat} {e : TypeId} {size n : Nat} {v : Value} {xs : List Value} (h : w.ownsRow base e size v n xs) (hl : xs.length = n * size) : ∃ p cap, v = .slice p n cap ∧ CellsIn w p (n * size) (fun j => xs.getD j (.int .i64 0)) := by
  by_cases hn : 0 < n
  · obtain ⟨g, cap, rfl, _, _⟩ := h.form hn
    refine ⟨_, cap, rfl, fun j hj => ⟨g, 0, rfl, (h.lt g rfl).2, ?_⟩⟩
    rw [Nat.zero_add, h.cellAt j hj]
    dsimp only
    rw [List.getD_eq_getElem?_getD, List.getElem?_eq_getElem (by omega : j < xs.length)]
    rfl
  · obtain rfl : n = 0 := by omega
    rcases h.2 with ⟨rfl, _⟩ | ⟨g, cap, cur, rfl, _⟩
    · exact ⟨none, 0, rfl, fun j hj => absurd hj (by simp)⟩
    · exact ⟨_, cap, rfl, fun j hj => absurd hj (by simp)⟩
/-- The cells of a node. -/
def ndC (n : ND) : List Value := [.int .i64 n.kind, .int .i64 n.times, .int .u64 (n.set.a.toNat : Int), .int .u64 (n.set.b.toNat : Int), .int .u64 (n.set.c.toNat : Int), .int .u64 (n.set.d.toNat : Int), .int .i64 n.group, .int .i64 n.first, .int .i64 n.next]
def ndV (n : ND) : Value := .agg (ndC n).toArray
def ndsC (L : List ND) : List Value := L.flatMap ndC
theorem ndsC_length : ∀ L : List ND, (ndsC L).length = L.length * 9
  | [] => rfl
  | n :: L => by
    show (ndC n ++ ndsC L).length = _
    rw [List.length_append, ndsC_length L, List.length_cons]
    show 9 + _ = _
    omega
theorem ndsC_append (A B : List ND) : ndsC (A ++ B) = ndsC A ++ ndsC B := by
  unfold ndsC
  rw [List.flatMap_append]
theorem ndC_one (n : ND) : ∀ u ∈ ndC n, u.oneCell' = true := by
  intro u h
  simp only [ndC, List.mem_cons, List.not_mem_nil, or_false] at h
  rcases h with rfl | rfl | rfl | rfl | rfl | rfl | rfl | rfl | rfl <;> rfl
theorem infoNd : (Tryz.prog.info? 54).map (fun i => (i.zero, i.size, i.bytes)) = some (some (.agg #[.int .i64 0, .int .i64 0, .int .u64 0, .int .u64 0, .int .u64 0, .int .u64 0, .int .i64 0, .int .i64 0, .int .i64 0]), 9, 72) := by kernel_rfl
/-- The frame of a method of the parser: its block and the row of its nodes turn, and new memory comes. -/
structure PF (B : Nat) (v v' : Value) (w w' : World) : Prop where
  os : w'.os = w.os
  tape : w'.tape = w.tape
  output : w'.output = w.output
  size : w.heap.size ≤ w'.heap.size
  block : ∀ k, k < w.heap.size → k ≠ B → v.ownBlock ≠ some k → w'.heap[k]? = w.heap[k]?
  own : v'.ownBlock = v.ownBlock ∨ ∀ r, v'.ownBlock = some r → w.heap.size ≤ r
theorem PF.refl (B : Nat) (v : Value) (w : World) : PF B v v w w := ⟨rfl, rfl, rfl, Nat.le_refl _, fun _ _ _ _ => rfl, .inl rfl⟩
theorem PF.trans {B : Nat} {v v' v'' : Value} {a b c : World} (h : PF B v v' a b) (k : PF B v' v'' b c) : PF B v v'' a c := by
  refine ⟨k.os.trans h.os, k.tape.trans h.tape, k.output.trans h.output, Nat.le_trans h.size k.size, fun i hi h1 h2 => ?_, ?_⟩
  · refine (k.block i (Nat.lt_of_lt_of_le hi h.size) h1 ?_).trans (h.block i hi h1 h2)
    rcases h.own with e | e
    · rw [e]; exact h2
    · intro e2
      have := e i e2
      omega
  · rcases k.own with e | e
    · rw [e]; exact h.own
    · exact .inr fun r hr => Nat.le_trans h.size (e r hr)
theorem PF.of {B : Nat} {w w' : World} (v : Value) (h : w.grownBy w' (some B)) : PF B v v w w' :=
  ⟨h.os, h.tape, h.output, h.size, fun k hk h1 _ => h.block k hk (fun e => h1 (by injection e)), .inl rfl⟩
theorem PF.kept {t : TypeId} {B b : Nat} {v v' : Value} {w w' : World} {cs : List Value} (h : PF B v v' w w') (hb : CBlk t w b cs) (h1 : b ≠ B) (h2 : some b ≠ v.ownBlock) : CBlk t w' b cs :=
  (h.block b hb.lt h1 (fun e => h2 e.symm)).trans hb
theorem PF.row {B base : Nat} {v v' : Value} {w w' : World} {e : TypeId} {size n : Nat} {u : Value} {xs : List Value} (h : PF B v v' w w') (hr : w.ownsRow base e size u n xs) (h1 : u.ownBlock ≠ some B) (h2 : u.ownBlock = none ∨ u.ownBlock ≠ v.ownBlock) : w'.ownsRow base e size u n xs := by
  refine ⟨hr.1, ?_⟩
  rcases hr.2 with hn | ⟨g, cap, cur, rfl, hb, hgg, rest⟩
  · exact .inl hn
  · refine .inr ⟨g, cap, cur, rfl, hb, ?_, rest⟩
    rw [h.block g (Array.getElem?_eq_some_iff.1 hgg).1 (fun e => h1 (by rw [← e]; rfl)) (fun e => by
      rcases h2 with h2 | h2
      · cases h2
      · exact h2 (by rw [e]; rfl))]
    exact hgg
theorem PF.below {B N : Nat} {v v' : Value} {w w' : World} (h : PF B v v' w w') (hB : N ≤ B) (hv : ∀ r, v.ownBlock = some r → N ≤ r) (hN : N ≤ w.heap.size) : Below N w w' :=
  ⟨h.os, h.tape, h.output, h.size, fun k hk => h.block k (by omega) (by omega) (fun e => by have := hv k e; omega)⟩
theorem own_ne {W : World} {base base' : Nat} {t e : TypeId} {s s' n n' : Nat} {v u : Value} {xs ys : List Value} (hte : t ≠ e) (h : W.ownsRow base t s v n xs) (k : W.ownsRow base' e s' u n' ys) : u.ownBlock = none ∨ u.ownBlock ≠ v.ownBlock := by
  rcases k.2 with ⟨rfl, _⟩ | ⟨g, cap, cur, rfl, _, hg, _⟩
  · exact .inl rfl
  · refine .inr fun e' => ?_
    rcases h.2 with ⟨rfl, _⟩ | ⟨g', cap', cur', rfl, _, hg', _⟩
    · cases e'
    · injection e' with e'
      have e' : g = g' := e'
      subst e'
      have := hg.symm.trans hg'
      simp at this
      exact hte this.2.symm
theorem RD.not_row {w : World} {B : Nat} {t : List UInt8} {s : RS} {x4 x5 x6 x7 : Value} (h : RD w B t s x4 x5 x6 x7) {base size k : Nat} {e : TypeId} {v : Value} {xs : List Value} (hte : 64 ≠ e) (hr : w.ownsRow base e size v k xs) : some B ≠ v.ownBlock := CBlk.not_row h.2.2 hte hr
theorem RD.nodes {w : World} {B : Nat} {t : List UInt8} {s : RS} {x4 x5 x6 x7 : Value} (h : RD w B t s x4 x5 x6 x7) (v : Value) : RD (w.setCell ⟨B, 4, none⟩ v) B t s v x5 x6 x7 := ⟨h.1, h.2.1, CBlk.set h.2.2 4 v⟩
set_option maxHeartbeats 4000000 in
set_option maxRecDepth 100000 in
theorem add_any (t : List UInt8) (s : RS) (v x5 x6 x7 : Value) (n : ND) (L : List ND) (hL : L.length < 1000000) (N : Nat) (W : World) (B : Nat) (hN : N ≤ W.heap.size) (h : RD W B t s v x5 x6 x7) (hrow : W.ownsRow N 54 9 v L.length (ndsC L)) :
    Calls Tryz.prog 72 #[.pointer (some ⟨B, 0, none⟩), ndV n] W fun e w' => e = .returned (.int .i64 (L.length : Int)) ∧ ∃ v', RD w' B t s v' x5 x6 x7 ∧ w'.ownsRow N 54 9 v' (L.length + 1) (ndsC (L ++ [{ n with first := -1, next := -1 }])) ∧ PF B v v' W w' := by
  obtain ⟨i0, hi, hz0, hz1, hz2⟩ := info_parts infoNd
  have hnr := h.not_row (by decide) hrow
  have hlt := h.lt
  obtain ⟨p, c, rfl⟩ := own_slice hrow
  unfold ndV ndC
  go_enter Tryz.func72, Tryz.ntmps72
  go_upto_region 1 with fail
  have hb0 : CBlk 54 (W.alloc (.cells #[.int .i64 n.kind, .int .i64 n.times, .int .u64 (n.set.a.toNat : Int), .int .u64 (n.set.b.toNat : Int), .int .u64 (n.set.c.toNat : Int), .int .u64 (n.set.d.toNat : Int), .int .i64 n.group, .int .i64 n.first, .int .i64 n.next] 54)) W.heap.size (ndC n) := CBlk.new _ W (ndC n)
  have h0 := jplain h (.cells #[.int .i64 n.kind, .int .i64 n.times, .int .u64 (n.set.a.toNat : Int), .int .u64 (n.set.b.toNat : Int), .int .u64 (n.set.c.toNat : Int), .int .u64 (n.set.d.toNat : Int), .int .i64 n.group, .int .i64 n.first, .int .i64 n.next] 54)
  have r0 := hrow.alloc (.cells #[.int .i64 n.kind, .int .i64 n.times, .int .u64 (n.set.a.toNat : Int), .int .u64 (n.set.b.toNat : Int), .int .u64 (n.set.c.toNat : Int), .int .u64 (n.set.d.toNat : Int), .int .i64 n.group, .int .i64 n.first, .int .i64 n.next] 54)
  have g0 := World.grownBy_alloc W (.cells #[.int .i64 n.kind, .int .i64 n.times, .int .u64 (n.set.a.toNat : Int), .int .u64 (n.set.b.toNat : Int), .int .u64 (n.set.c.toNat : Int), .int .u64 (n.set.d.toNat : Int), .int .i64 n.group, .int .i64 n.first, .int .i64 n.next] 54) none
  obtain ⟨X0, hX0⟩ : ∃ X0, W.alloc (.cells #[.int .i64 n.kind, .int .i64 n.times, .int .u64 (n.set.a.toNat : Int), .int .u64 (n.set.b.toNat : Int), .int .u64 (n.set.c.toNat : Int), .int .u64 (n.set.d.toNat : Int), .int .i64 n.group, .int .i64 n.first, .int .i64 n.next] 54) = X0 := ⟨_, rfl⟩
  rw [hX0] at hb0 h0 r0 g0 ⊢
  clear hX0
  have q7 := hb0.cell 7 (by simp [ndC])
  have q8 := hb0.cell 8 (by simp [ndC])
  have p7 := hb0.free 7
  have p8 := hb0.free 8
  go_upto_region 2 with fail
  have hb1 := (hb0.set 7 (.int .i64 (-1))).set 8 (.int .i64 (-1))
  have h1 : RD ((X0.setCell ⟨W.heap.size, 7, none⟩ (.int .i64 (-1))).setCell ⟨W.heap.size, 8, none⟩ (.int .i64 (-1))) B t s (.slice p L.length c) x5 x6 x7 := ⟨h0.1, h0.2.1, (CBlk.other h0.2.2 ⟨W.heap.size, 7, none⟩ (by show W.heap.size ≠ B; omega) _).other ⟨W.heap.size, 8, none⟩ (by show W.heap.size ≠ B; omega) _⟩
  have g1 : W.grownBy ((X0.setCell ⟨W.heap.size, 7, none⟩ (.int .i64 (-1))).setCell ⟨W.heap.size, 8, none⟩ (.int .i64 (-1))) none := jgst (jgst g0 (p := ⟨W.heap.size, 7, none⟩) (Nat.le_refl _) _) (p := ⟨W.heap.size, 8, none⟩) (Nat.le_refl _) _
  have r1 := hrow.kept g1 (Decidable.em _)
  obtain ⟨X, hX⟩ : ∃ X, (X0.setCell ⟨W.heap.size, 7, none⟩ (.int .i64 (-1))).setCell ⟨W.heap.size, 8, none⟩ (.int .i64 (-1)) = X := ⟨_, rfl⟩
  rw [hX] at hb1 h1 r1 g1 ⊢
  clear hX q7 q8 p7 p8 hb0 h0 r0 g0
  have k0 := hb1.cell 0 (by simp [ndC])
  have k1 := hb1.cell 1 (by simp [ndC])
  have k2 := hb1.cell 2 (by simp [ndC])
  have k3 := hb1.cell 3 (by simp [ndC])
  have k4 := hb1.cell 4 (by simp [ndC])
  have k5 := hb1.cell 5 (by simp [ndC])
  have k6 := hb1.cell 6 (by simp [ndC])
  have k7 := hb1.cell 7 (by simp [ndC])
  have k8 := hb1.cell 8 (by simp [ndC])
  simp only [ndC, List.set_cons_succ, List.set_cons_zero, List.getElem_cons_succ, List.getElem_cons_zero] at k0 k1 k2 k3 k4 k5 k6 k7 k8
  obtain ⟨d4, d5, d6, d7⟩ := h1.cells2
  have f4 := h1.free 4
  have hls := hb1.lt
  have hlB := h1.lt
  go_region_law (refine step_append_lies _ rfl _ _ 23 rfl N 54 i0 (.agg #[.int .i64 0, .int .i64 0, .int .u64 0, .int .u64 0, .int .u64 0, .int .u64 0, .int .i64 0, .int .i64 0, .int .i64 0]) 9 72 Tryz.underlying23 hi hz0 hz1 hz2 rfl (by decide) (.slice p L.length c) L.length (ndsC L) rfl ((r1.alloc _).drew) ⟨X.heap.size, 0, none⟩ 1 1 (ndC { n with first := -1, next := -1 }) rfl rfl (World.news_of_block (heap_alloc_new X _)) (ndC_one _) (by decide) (by unfold maxLen; omega) (by omega) (by simp; omega) _ rfl ?_; intro g cap w1 hown1 hgrow1 hg1 _; have h2 := (jplain h1 _).drew.kept hgrow1 hnr; obtain ⟨e4, e5, e6, e7⟩ := h2.cells2; have e8 := h2.free 4)
  all_goals
    go_wp2_with fail
    go_ret
    refine ⟨rfl, .slice (some ⟨g, 0, none⟩) (L.length + 1) cap, h2.nodes _, ?_, ?_⟩
    · rw [ndsC_append]
      have hx : ndsC [{ n with first := -1, next := -1 }] = ndC { n with first := -1, next := -1 } := List.append_nil _
      rw [hx]
      exact ownsRow_setCell_other hown1 (fun e => h2.not_row (by decide) hown1 e.symm) _
    · refine ⟨hgrow1.os.trans g1.os, hgrow1.tape.trans g1.tape, hgrow1.output.trans g1.output, ?_, fun k hk h1 h2 => ?_, ?_⟩
      · have := hgrow1.size
        have := g1.size
        simp [World.setCell] at *
        omega
      · have hk1 : k < X.heap.size := Nat.lt_of_lt_of_le hk g1.size
        refine (Below.heap_setCell _ _ _ _ h1).trans ((hgrow1.block k (by simp; omega) (fun e => h2 e.symm)).trans ((Below.heap_alloc _ _ _ hk1).trans (g1.block k hk (by simp))))
      · rcases hg1 with e | e
        · exact .inl e.symm
        · refine .inr fun r hr => ?_
          injection hr with hr
          subst hr
          rw [e]
          have := g1.size
          simp
          omega
end Go.Proofs.YtdnbnigebejgjaaGreatDoor
namespace Go.Proofs.YtdnbnigebejgjaaGreatDoor
open Go.RowKit
theorem ndsC_set (j : Nat) (hj : j < 9) (u : Value) (f : ND → ND) (hf : ∀ n, (ndC n).set j u = ndC (f n)) : ∀ (L : List ND) (i : Nat), i < L.length → (ndsC L).set (i * 9 + j) u = ndsC (L.modify i f)
  | [], i, h => absurd h (by simp)
  | n :: L, 0, _ => by
    show (ndC n ++ ndsC L).set (0 * 9 + j) u = ndC (f n) ++ ndsC L
    rw [Nat.zero_mul, Nat.zero_add, List.set_append_left _ _ (by show j < 9; exact hj), hf]
  | n :: L, i + 1, h => by
    show (ndC n ++ ndsC L).set ((i + 1) * 9 + j) u = ndC n ++ ndsC (L.modify i f)
    rw [List.set_append_right _ _ (by show 9 ≤ _; omega), show (i + 1) * 9 + j - (ndC n).length = i * 9 + j by show (i + 1) * 9 + j - 9 = _; omega, ndsC_set j hj u f hf L i (by simpa using h)]
theorem ndC_first (k : Nat) (n : ND) : (ndC n).set 7 (.int .i64 (k : Int)) = ndC { n with first := (k : Int) } := rfl
theorem ndC_next (k : Nat) (n : ND) : (ndC n).set 8 (.int .i64 (k : Int)) = ndC { n with next := (k : Int) } := rfl
theorem ndC_times (k : Nat) (n : ND) : (ndC n).set 1 (.int .i64 (k : Int)) = ndC { n with times := (k : Int) } := rfl
/-- The offset of a place in the cells of the nodes. -/
def plO (p : Nat × Bool) : Nat := p.1 * 9 + if p.2 = true then 8 else 7
theorem ndsC_put (L : List ND) (p : Nat × Bool) (hp : p.1 < L.length) (k : Nat) : (ndsC L).set (plO p) (.int .i64 (k : Int)) = ndsC (putL L p k) := by
  obtain ⟨i, b⟩ := p
  cases b with
  | false => exact ndsC_set 7 (by omega) _ _ (ndC_first k) L i hp
  | true => exact ndsC_set 8 (by omega) _ _ (ndC_next k) L i hp
theorem putL_length (L : List ND) (p : Nat × Bool) (k : Nat) : (putL L p k).length = L.length := by
  unfold putL
  rw [List.length_modify]
theorem adoptL_length : ∀ (ks : List Nat) (L : List ND) (p : Nat × Bool), (adoptL L p ks).length = L.length
  | [], _, _ => rfl
  | k :: ks, L, p => by rw [adoptL, adoptL_length ks, putL_length]
/-- A slice of numbers that lies apart from the parser. -/
def KI (W : World) (B g : Nat) (kp : Option Addr) (ks : List Nat) : Prop := ∀ j (hj : j < ks.length), ∃ b off : Nat, kp = some ⟨b, off, none⟩ ∧ b < W.heap.size ∧ b ≠ B ∧ b ≠ g ∧ W.cell? ⟨b, off + j, none⟩ = some (.int .i64 (ks[j] : Int))
set_option maxHeartbeats 4000000 in
set_option maxRecDepth 100000 in
theorem adopt_any (t : List UInt8) (s : RS) (g cap : Nat) (x5 x6 x7 : Value) (L : List ND) (N : Nat) (W : World) (B : Nat) (at_ : Nat) (hat : at_ < L.length) (ks : List Nat) (hks : ∀ k ∈ ks, k < L.length) (hkl : ks.length < 1000000) (kp : Option Addr) (kc : Nat) (h : RD W B t s (.slice (some ⟨g, 0, none⟩) L.length cap) x5 x6 x7) (hrow : W.ownsRow N 54 9 (.slice (some ⟨g, 0, none⟩) L.length cap) L.length (ndsC L)) (hK : KI W B g kp ks) :
    Calls Tryz.prog 74 #[.pointer (some ⟨B, 0, none⟩), .int .i64 (at_ : Int), .slice kp ks.length kc] W fun e w' => e = .returned (.tuple #[]) ∧ RD w' B t s (.slice (some ⟨g, 0, none⟩) L.length cap) x5 x6 x7 ∧ w'.ownsRow N 54 9 (.slice (some ⟨g, 0, none⟩) L.length cap) L.length (ndsC (adoptL L (at_, false) ks)) ∧ W.grownBy w' (some g) := by
  have hnr : B ≠ g := fun e => h.not_row (by decide) hrow (by rw [e]; rfl)
  obtain ⟨R, hR⟩ : ∃ R, adoptL L (at_, false) ks = R := ⟨_, rfl⟩
  rw [hR]
  have HR := Lib.hid hR
  have HKS := Lib.hid hks
  have HK := Lib.hid hK
  clear hR hks hK
  obtain ⟨d4, d5, d6, d7⟩ := h.cells2
  have hb1 : (at_ : Int) < (L.length : Int) := by omega
  go_enter Tryz.func74, Tryz.ntmps74
  go_wp2_with fail
  go_loopw [6, 19] (fun pl i wr => ∃ (j : Nat) (L' : List ND) (p : Nat × Bool), j ≤ ks.length ∧ i = .int .i64 (j : Int) ∧ pl = .pointer (some ⟨g, plO p, none⟩) ∧ Hid (L'.length = L.length) ∧ Hid (p.1 < L.length) ∧ Hid (adoptL L' p (ks.drop j) = R) ∧ Hid (RD wr B t s (.slice (some ⟨g, 0, none⟩) L.length cap) x5 x6 x7) ∧ Hid (wr.ownsRow N 54 9 (.slice (some ⟨g, 0, none⟩) L.length cap) L.length (ndsC L')) ∧ Hid (W.grownBy wr (some g))) (fun _ i _ => ks.length - (intOf i).toNat)
  case atStart => exact ⟨0, L, (at_, false), Nat.zero_le _, rfl, rfl, Lib.hid rfl, Lib.hid hat, HR, Lib.hid h, Lib.hid hrow, Lib.hid (jgrefl _ _)⟩
  case round =>
    obtain ⟨j, L', p, hj, rfl, rfl, HL, HP, HA, HD, HO, HG⟩ := hrel
    rename World => wr
    clear h hrow d4 d5 d6 d7
    by_cases hlt : j < ks.length
    · obtain ⟨b, off, rfl, hbl, hbB, hbg, e0⟩ := HK.out j hlt
      have hkx := HKS.out _ (List.getElem_mem hlt)
      have HA2 := HA.out
      rw [List.drop_eq_getElem_cons hlt] at HA2
      obtain ⟨x, hx⟩ : ∃ x, ks[j] = x := ⟨_, rfl⟩
      rw [hx] at e0 hkx HA2
      have e1 : wr.cell? ⟨b, off + j, none⟩ = some (.int .i64 (x : Int)) := (World.cell?_of_block (w := W) (HG.out.block b hbl (fun e => hbg (by injection e)))).trans e0
      have HA3 : Hid (adoptL (putL L' p x) (x, true) (ks.drop (j + 1)) = R) := Lib.hid HA2
      have hst := HO.out.stored (plO p) (.int .i64 (x : Int))
      rw [ndsC_put L' p (by rw [HL.out]; exact HP.out) x] at hst
      obtain ⟨r1, g1⟩ := hst
      have hlen9 : plO p < L.length * 9 := by
        have := HP.out
        unfold plO
        split <;> omega
      have c0 := HO.out.cellAt (plO p) hlen9
      have hxx : (ndsC L')[plO p]? = some ((ndsC L')[plO p]'(by rw [ndsC_length, HL.out]; exact hlen9)) := List.getElem?_eq_getElem _
      rw [hxx] at c0
      have f0 := HO.out.frozenAt (plO p)
      have h1 := HD.out.kept g1 (fun e => hnr (by injection e))
      obtain ⟨d4, d5, d6, d7⟩ := HD.out.cells2
      have hb2 : (x : Int) < (L.length : Int) := by omega
      have ww : IntKind.i64.wrap ((j : Int) + 1) = (j : Int) + 1 := jwrap (by omega) (by omega)
      have G1 := jgtrans HG.out g1
      have HL2 : Hid ((putL L' p x).length = L.length) := Lib.hid (by rw [putL_length]; exact HL.out)
      have hplx : plO (x, true) = x * 9 + 8 := rfl
      have hBg : ¬ B = g := hnr
      have hgB : ¬ g = B := fun e => hnr e.symm
      clear HA HA2 e0 hxx hx
      go_wp2_with fail
      go_roundw
      case rel => exact ⟨j + 1, putL L' p x, (x, true), by omega, by go_num, by rw [hplx], HL2, Lib.hid hkx, HA3, Lib.hid h1, Lib.hid r1, Lib.hid G1⟩
      case measure => simp [intOf]; omega
    · obtain rfl : j = ks.length := by omega
      have HA2 := HA.out
      rw [List.drop_length] at HA2
      have HA3 : Hid (L' = R) := Lib.hid HA2
      clear HA HA2
      go_wp2_with fail
      exact bodyPost_end (v := .tuple #[]) (by simp [Go.results, Tryz.results74, go_sem]) rfl ⟨rfl, HD.out, by rw [← HA3.out]; exact HO.out, HG.out⟩
end Go.Proofs.YtdnbnigebejgjaaGreatDoor
