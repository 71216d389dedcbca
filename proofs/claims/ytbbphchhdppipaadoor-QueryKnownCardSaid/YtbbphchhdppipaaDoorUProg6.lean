/-
  The program's pairOf and pieces, for texts shorter than 100000 bytes; append at a slice of one's own inside a fence.
-/
import Derived.Test.YtbbphchhdppipaaDoorUNest
import Derived.Test.YtbbphchhdppipaaDoorUProg3
namespace Go.Proofs.YtbbphchhdppipaaDoor
open Go.RowKit Go.Shelf
theorem cutB_index : ∀ (l : List UInt8), (∃ k, k < l.length ∧ Lib.indexByte l 61 = (k : Int) ∧ cutB 61 l = (l.take k, l.drop (k + 1), true)) ∨ (Lib.indexByte l 61 = -1 ∧ cutB 61 l = (l, [], false))
  | [] => .inr ⟨rfl, rfl⟩
  | c :: r => by
    by_cases hc : c = 61
    · left
      subst hc
      exact ⟨0, by simp, by simp [Lib.indexByte], by simp [cutB]⟩
    · have hb : (c == 61) = false := by simpa using hc
      rcases cutB_index r with ⟨k, h1, h2, h3⟩ | ⟨h2, h3⟩
      · left
        refine ⟨k + 1, by simp; omega, ?_, ?_⟩
        · unfold Lib.indexByte
          rw [hb, h2, if_neg (by simp), if_neg (by simp)]
          rfl
        · rw [cutB, if_neg hc, h3]
          simp
      · right
        refine ⟨?_, ?_⟩
        · unfold Lib.indexByte
          rw [hb, h2]
          simp
        · rw [cutB, if_neg hc, h3]
set_option maxRecDepth 100000 in
set_option maxHeartbeats 4000000 in
theorem slCut_any (l : List UInt8) (hl : l.length < 100000) (w : World) :
    Calls Tryd.prog 85 #[.string ⟨l.toArray⟩, .string ⟨#[61]⟩] w fun e w' => e = .returned (cutV (cutB 61 l)) ∧ Below w.heap.size w w' := by
  rcases cutB_index l with ⟨k, hk, hidx, hcut⟩ | ⟨hidx, hcut⟩
  · have HIDX := Lib.hid hidx
    have d1 : decide (0 ≤ (k : Int)) = true := decide_eq_true (by omega)
    have f1 := ba_fst l k
    have f2 := ba_snd l (k + 1)
    obtain ⟨A, hA⟩ : ∃ A, l.take k = A := ⟨_, rfl⟩
    obtain ⟨B, hB⟩ : ∃ B, l.drop (k + 1) = B := ⟨_, rfl⟩
    rw [hA] at f1 hcut
    rw [hB] at f2 hcut
    have HC := Lib.hid hcut
    have q1 : IntKind.i64.wrap ((k : Int) + 1) = ((k + 1 : Nat) : Int) := by rw [IntKind.wrap_i64]; omega
    have hb3 : (k : Int) ≤ (l.length : Int) := by omega
    have hb4 : ((k + 1 : Nat) : Int) ≤ (l.length : Int) := by omega
    clear hA hB hcut hidx
    go_enter Tryd.func85, Tryd.ntmps85
    go_wp2_with fail
    refine (index61_any l _).mono ?_
    rintro e w' ⟨rfl, rfl⟩
    rw [HIDX.out]
    go_wp2_with fail
    go_region
    all_goals
      go_wp2_with fail
      go_ret3
      exact ⟨by rw [HC.out]; rfl, (Below.refl _ _).drew⟩
  · have HIDX := Lib.hid hidx
    have HC := Lib.hid hcut
    have d1 : decide (0 ≤ (-1 : Int)) = false := by decide
    clear hcut hidx
    go_enter Tryd.func85, Tryd.ntmps85
    go_wp2_with fail
    refine (index61_any l _).mono ?_
    rintro e w' ⟨rfl, rfl⟩
    rw [HIDX.out]
    go_wp2_with fail
    go_ret3
    exact ⟨by rw [HC.out]; rfl, Below.refl _ _⟩
set_option maxRecDepth 100000 in
set_option maxHeartbeats 4000000 in
theorem strCut_any (l : List UInt8) (hl : l.length < 100000) (w : World) :
    Calls Tryd.prog 75 #[.string ⟨l.toArray⟩, .string ⟨#[61]⟩] w fun e w' => e = .returned (cutV (cutB 61 l)) ∧ Below w.heap.size w w' := by
  obtain ⟨⟨n, v, s⟩, hr⟩ : ∃ r, cutB 61 l = r := ⟨_, rfl⟩
  have HC : Hid (∀ W, Calls Tryd.prog 85 #[.string ⟨l.toArray⟩, .string ⟨#[61]⟩] W fun e w' => e = .returned (.tuple #[.string ⟨n.toArray⟩, .string ⟨v.toArray⟩, .bool s]) ∧ Below W.heap.size W w') := Lib.hid fun W => by
    have h := slCut_any l hl W
    rw [hr] at h
    exact h
  rw [hr]
  clear hr
  go_enter Tryd.func75, Tryd.ntmps75
  go_wp2_with fail
  refine (HC.out _).mono ?_
  rintro e w' ⟨rfl, hb⟩
  go_wp2_with fail
  go_ret3
  exact ⟨rfl, hb⟩
theorem pair_size : (Tryd.prog.info? 40).map (·.size) = some 3 := by kernel_rfl
set_option maxRecDepth 100000 in
set_option maxHeartbeats 4000000 in
theorem pairOf_any (l : List UInt8) (hl : l.length < 100000) (w : World) :
    Calls Tryd.prog 51 #[.string ⟨l.toArray⟩] w fun e w' => e = .returned (prV (prOf l)) ∧ Below w.heap.size w w' := by
  obtain ⟨⟨n, v, s⟩, hr⟩ : ∃ r, cutB 61 l = r := ⟨_, rfl⟩
  have HC : Hid (∀ W, Calls Tryd.prog 75 #[.string ⟨l.toArray⟩, .string ⟨#[61]⟩] W fun e w' => e = .returned (.tuple #[.string ⟨n.toArray⟩, .string ⟨v.toArray⟩, .bool s]) ∧ Below W.heap.size W w') := Lib.hid fun W => by
    have h := strCut_any l hl W
    rw [hr] at h
    exact h
  have HP : Hid (prOf l = ⟨n, v, !s⟩) := Lib.hid (by unfold prOf; rw [hr])
  rw [HP.out]
  clear hr
  have p0 : CBlk 40 (w.alloc (.cells #[.string ⟨#[]⟩, .string ⟨#[]⟩, .bool false] 40)) w.heap.size [.string ⟨#[]⟩, .string ⟨#[]⟩, .bool false] := CBlk.new _ w _
  have hB0 := (Below.refl _ w).alloc (Nat.le_refl _) (.cells #[.string ⟨#[]⟩, .string ⟨#[]⟩, .bool false] 40)
  go_enter Tryd.func51, Tryd.ntmps51
  go_wp2_with fail
  refine (HC.out _).mono ?_
  rintro e w1 ⟨rfl, hb⟩
  have p1 := p0.below hb p0.lt
  have hB1 := hB0.trans (hb.mono hB0.size)
  have f0 := p1.free 0
  have f1 := p1.free 1
  have f2 := p1.free 2
  have c0 := p1.cell 0 (by simp)
  have c1 := p1.cell 1 (by simp)
  have c2 := p1.cell 2 (by simp)
  clear hb hB0
  go_wp2_with fail
  have p2 : CBlk 40 (((w1.setCell ⟨w.heap.size, 0, none⟩ (.string ⟨n.toArray⟩)).setCell ⟨w.heap.size, 1, none⟩ (.string ⟨v.toArray⟩)).setCell ⟨w.heap.size, 2, none⟩ (.bool !s)) w.heap.size [.string ⟨n.toArray⟩, .string ⟨v.toArray⟩, .bool !s] := ((p1.set 0 _).set 1 _).set 2 _
  have hB2 := ((hB1.setCell (p := ⟨w.heap.size, 0, none⟩) (Nat.le_refl _) (.string ⟨n.toArray⟩)).setCell (p := ⟨w.heap.size, 1, none⟩) (Nat.le_refl _) (.string ⟨v.toArray⟩)).setCell (p := ⟨w.heap.size, 2, none⟩) (Nat.le_refl _) (.bool !s)
  exact bodyPost_ret (results_cell_row rfl _ _ _ _ _ _ _ rfl p2 Tryd.underlying40 rfl pair_size) rfl ⟨rfl, hB2⟩
theorem pieces_any (l : List UInt8) (w : World) :
    Calls Tryd.prog 49 #[.string ⟨l.toArray⟩] w fun e w' => e = .returned (.func (.func 72) #[] #[.pointer (some ⟨w.heap.size, 0, none⟩)]) ∧ w' = w.alloc (.cells #[.string ⟨l.toArray⟩] 9) := by
  go_enter Tryd.func49, Tryd.ntmps49
  go_wp2
  go_ret
  exact ⟨rfl, rfl⟩
theorem own_mono {w : World} {base base' : Nat} {e : TypeId} {size n : Nat} {v : Value} {xs : List Value} (h : w.ownsRow base e size v n xs) (hb : base' ≤ base) : w.ownsRow base' e size v n xs :=
  ⟨h.1, h.2.imp id fun ⟨g, cap, cur, e1, hg, r⟩ => ⟨g, cap, cur, e1, Nat.le_trans hb hg, r⟩⟩
/-- append at a slice of one's own, at its operation, inside a fence. -/
theorem stepIn_append_own {F : Fence} {n : Nat} {P : Program} (w : World) {ops : Array Oper} {o : Oper} {a : Act} {K : Act → World → Prop} {Q : Exit → Act → World → Prop} {E : Prop}
    (hg : o.guard = none) (s x : Operand) (t : TypeId) (hop : o.op = Op.call { callee := Callee.builtin Builtin.append, args := #[s, x], argTypes := #[t, t] })
    (base : Nat) (e : TypeId) (i : TypeInfo) (z : Value) (size bytes : Nat) (h1 : P.underlying t = some (.slice e)) (h2 : P.info? e = some i) (h3 : i.zero = some z) (h4 : i.size = size) (h5 : i.bytes = bytes) (h6 : z.cells.size = size) (h7 : 0 < size)
    (v : Value) (k : Nat) (xs : List Value) (hs : a.eval s = v) (hown : w.ownsRow base e size v k xs) (ad : Addr) (m c : Nat) (news : List Value) (hx : a.eval x = .slice (some ad) m c) (hn : news.length = m * size)
    (hc : ∀ j u, news[j]? = some u → w.cell? (ad.add j) = some u) (h1c : ∀ u ∈ news, u.oneCell' = true) (hm : 0 < m) (b1 : k + m ≤ maxLen) (b2 : (k + m) * bytes ≤ 140737488355328) (b3 : base ≤ w.heap.size)
    (hK : ∀ g cap w', w'.ownsRow base e size (.slice (some ⟨g, 0, none⟩) (k + m) cap) (k + m) (xs ++ news) → w.grownBy w' v.ownBlock → K (a.put o.dst (.slice (some ⟨g, 0, none⟩) (k + m) cap)) w') :
    if Region.wanted o (yielded ops a.tmps) = true then Oper.wpIn F n P o a w K Q else E := by
  have hw : Region.wanted o (yielded ops a.tmps) = true := by simp [Region.wanted, hg]
  rw [if_pos hw]
  obtain ⟨v', w', hrun, r1, r2, r3⟩ := run_append_own (P := P) w base t o.type e i z size bytes h1 h2 h3 h4 h5 h6 h7 v k xs hown ad m c news hn hc h1c b1 b2 b3
  obtain ⟨g, cap, rfl, -, -⟩ := r1.form (by omega)
  unfold Oper.wpIn
  refine ⟨?_, ?_⟩
  · simp [Oper.about, hop, resolve, Target.leads, Sem.run_pure]
  · rw [Oper.semAt_plain F _ _ (by rw [hop]; intro c hc'; cases hc')]
    simp [execOp, hop, resolve, invoke, builtin, hs, hx, hrun, Result.andThen]
    exact hK g cap w' r1 r2
end Go.Proofs.YtbbphchhdppipaaDoor
