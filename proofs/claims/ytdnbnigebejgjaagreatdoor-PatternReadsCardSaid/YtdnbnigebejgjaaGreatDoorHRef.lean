/-
  waypostkit.SameTree: whether two trees are the same.
  The law's own helpers: one, node; equality of faults.
-/
import Derived.Test.YtdnbnigebejgjaaGreatDoorHJRef1
namespace Go.Proofs.YtdnbnigebejgjaaGreatDoor
open Go.RowKit Go.Shelf
theorem eq_nd (m n : ND) (w : World) : (Op.equalIn 10000 54 (ndV m) (ndV n)).run Tryz.prog w = .ok (decide (m = n)) w := by
  rw [eq_nodes]
  congr 1
  obtain ⟨k, t, ⟨a, b, c, d⟩, g, f, x⟩ := m
  obtain ⟨k', t', ⟨a', b', c', d'⟩, g', f', x'⟩ := n
  have kk : ∀ x y : BitVec 64, ((x.toNat : Int) == (y.toNat : Int)) = decide (x = y) := fun x y => by
    by_cases h : x = y
    · subst h; simp
    · have : x.toNat ≠ y.toNat := fun e => h (BitVec.eq_of_toNat_eq e)
      rw [decide_eq_false h]
      exact beq_eq_false_iff_ne.2 (by omega)
  have ki : ∀ x y : Int, (x == y) = decide (x = y) := fun _ _ => rfl
  dsimp only
  simp only [kk, ki, ← Bool.decide_and]
  congr 1
  apply propext
  simp only [ND.mk.injEq, WSet.mk.injEq, and_assoc]
theorem drop_eq {L M : List ND} {k : Nat} (hk : k < L.length) (hm : k < M.length) : (L.drop k = M.drop k) ↔ (L[k] = M[k] ∧ L.drop (k + 1) = M.drop (k + 1)) := by
  rw [List.drop_eq_getElem_cons hk, List.drop_eq_getElem_cons hm]
  exact List.cons_eq_cons
set_option maxHeartbeats 4000000 in
set_option maxRecDepth 100000 in
theorem sameTree_any (L M : List ND) (hL : L.length < 1000000000) (v u : Value) (b1 e1 b2 e2 : Bool) (g1 g2 : Int) (W : World) (h : NdsAt W v L) (h' : NdsAt W u M) :
    Calls Tryz.prog 9 #[.agg #[v, .bool b1, .bool e1, .int .i64 g1], .agg #[u, .bool b2, .bool e2, .int .i64 g2]] W fun e w' => e = .returned (.bool (decide (L = M ∧ b1 = b2 ∧ e1 = e2 ∧ g1 = g2))) ∧ Below W.heap.size W w' := by
  obtain ⟨R, hR⟩ : ∃ R, decide (L = M ∧ b1 = b2 ∧ e1 = e2 ∧ g1 = g2) = R := ⟨_, rfl⟩
  rw [hR]
  obtain ⟨p, cp, rfl, hcp, hN⟩ := h
  obtain ⟨r, cr, rfl, hcr, hM⟩ := h'
  obtain ⟨q1, hq1⟩ : ∃ q, decide ((L.length : Int) = (M.length : Int)) = q := ⟨_, rfl⟩
  obtain ⟨q2, hq2⟩ : ∃ q, (b1 == b2) = q := ⟨_, rfl⟩
  obtain ⟨q3, hq3⟩ : ∃ q, (e1 == e2) = q := ⟨_, rfl⟩
  obtain ⟨q4, hq4⟩ : ∃ q, (g1 == g2) = q := ⟨_, rfl⟩
  have x1 : ((L.length : Int) != (M.length : Int)) = !q1 := by rw [← hq1]; rfl
  have x1' : ((L.length : Int) == (M.length : Int)) = q1 := by rw [← hq1]; rfl
  have x2 : (b1 != b2) = !q2 := by rw [← hq2]; rfl
  have x3 : (e1 != e2) = !q3 := by rw [← hq3]; rfl
  have x4 : (g1 != g2) = !q4 := by rw [← hq4]; rfl
  have hB : Below W.heap.size W ((W.alloc (.cells #[.slice p L.length cp, .bool b1, .bool e1, .int .i64 g1] 25)).alloc (.cells #[.slice r M.length cr, .bool b2, .bool e2, .int .i64 g2] 25)) := ((Below.refl _ W).alloc (Nat.le_refl _) _).alloc (by simp) _
  have hRR : R = (q1 && (q2 && (q3 && q4)) && decide (L = M)) := by
    rw [← hR, ← hq1, ← hq2, ← hq3, ← hq4]
    have k1 : (b1 == b2) = decide (b1 = b2) := by cases b1 <;> cases b2 <;> rfl
    have k2 : (e1 == e2) = decide (e1 = e2) := by cases e1 <;> cases e2 <;> rfl
    have k3 : (g1 == g2) = decide (g1 = g2) := rfl
    rw [k1, k2, k3, ← Bool.decide_and, ← Bool.decide_and, ← Bool.decide_and, ← Bool.decide_and]
    congr 1
    apply propext
    constructor
    · rintro ⟨rfl, a, b, c⟩; exact ⟨⟨rfl, a, b, c⟩, rfl⟩
    · rintro ⟨⟨_, a, b, c⟩, d⟩; exact ⟨d, a, b, c⟩
  have HRR := Lib.hid hRR
  clear hRR hR
  generalize hA : (W.alloc (.cells #[.slice p L.length cp, .bool b1, .bool e1, .int .i64 g1] 25)).alloc (.cells #[.slice r M.length cr, .bool b2, .bool e2, .int .i64 g2] 25) = A at hB
  have s0 : CBlk 25 A W.heap.size [.slice p L.length cp, .bool b1, .bool e1, .int .i64 g1] := by rw [← hA]; exact (CBlk.new _ W _).alloc _
  have s1 : CBlk 25 A (W.heap.size + 1) [.slice r M.length cr, .bool b2, .bool e2, .int .i64 g2] := by
    rw [← hA]
    have := CBlk.new 25 (W.alloc (.cells #[.slice p L.length cp, .bool b1, .bool e1, .int .i64 g1] 25)) [.slice r M.length cr, .bool b2, .bool e2, .int .i64 g2]
    rwa [World.size_alloc] at this
  obtain ⟨c0, c1, c2, c3⟩ : A.cell? ⟨W.heap.size, 0, none⟩ = _ ∧ A.cell? ⟨W.heap.size, 1, none⟩ = _ ∧ A.cell? ⟨W.heap.size, 2, none⟩ = _ ∧ A.cell? ⟨W.heap.size, 3, none⟩ = _ := ⟨s0.cell 0 (by simp), s0.cell 1 (by simp), s0.cell 2 (by simp), s0.cell 3 (by simp)⟩
  obtain ⟨d0, d1, d2, d3⟩ : A.cell? ⟨W.heap.size + 1, 0, none⟩ = _ ∧ A.cell? ⟨W.heap.size + 1, 1, none⟩ = _ ∧ A.cell? ⟨W.heap.size + 1, 2, none⟩ = _ ∧ A.cell? ⟨W.heap.size + 1, 3, none⟩ = _ := ⟨s1.cell 0 (by simp), s1.cell 1 (by simp), s1.cell 2 (by simp), s1.cell 3 (by simp)⟩
  cases q1 with
  | false =>
    have HF : Hid (R = false) := Lib.hid (by rw [HRR.out]; rfl)
    go_enter Tryz.func9, Tryz.ntmps9
    go_wp2_with fail
    go_ret
    exact ⟨by rw [HF.out]; rfl, hB⟩
  | true =>
    cases q2 with
    | false =>
      have HF : Hid (R = false) := Lib.hid (by rw [HRR.out]; rfl)
      go_enter Tryz.func9, Tryz.ntmps9
      go_wp2_with fail
      go_ret
      exact ⟨by rw [HF.out]; rfl, hB⟩
    | true =>
      cases q3 with
      | false =>
        have HF : Hid (R = false) := Lib.hid (by rw [HRR.out]; rfl)
        go_enter Tryz.func9, Tryz.ntmps9
        go_wp2_with fail
        go_ret
        exact ⟨by rw [HF.out]; rfl, hB⟩
      | true =>
        cases q4 with
        | false =>
          have HF : Hid (R = false) := Lib.hid (by rw [HRR.out]; rfl)
          go_enter Tryz.func9, Tryz.ntmps9
          go_wp2_with fail
          go_ret
          exact ⟨by rw [HF.out]; rfl, hB⟩
        | true =>
          have HF : Hid (R = decide (L = M)) := Lib.hid (by rw [HRR.out]; rfl)
          have hlen : L.length = M.length := by have := of_decide_eq_true hq1; omega
          have y2 : b1 = b2 := by revert hq2; cases b1 <;> cases b2 <;> simp
          have y3 : e1 = e2 := by revert hq3; cases e1 <;> cases e2 <;> simp
          have y4 : g1 = g2 := by simpa using hq4
          subst y2 y3 y4
          have HNL := Lib.hid hN
          have HNM := Lib.hid hM
          have S0 := Lib.hid s0
          have S1 := Lib.hid s1
          clear s0 s1 hN hM x1 x1' x2 x3 x4 hq1 hq2 hq3 hq4 HRR
          refine (callsIn_wide (n := 3)).1 ?_
          refine callsIn_of_wp Tryz.func9 rfl trivial ?_ rfl
          simp only [Tryz.ntmps9, List.size_toArray, List.length_cons, List.length_nil, Nat.reduceAdd, Nat.reduceSub, Array.replicate_succ, Array.replicate_zero, List.push_toArray, List.append_toArray, List.nil_append, List.cons_append]
          have x1 : ((L.length : Int) != (M.length : Int)) = false := by rw [hlen]; simp
          have x1' : ((L.length : Int) == (M.length : Int)) = true := by rw [hlen]; simp
          have HLE := Lib.hid hlen
          clear hlen
          gi_wp2_with fail
          clear c0 c1 c2 c3 d0 d1 d2 d3
          gi_loopw [5] (fun i wr => ∃ k : Nat, k ≤ L.length ∧ i = .int .i64 k ∧ Hid (R = decide (L.drop k = M.drop k)) ∧ Below A.heap.size A wr) (fun i _ => L.length - (intOf i).toNat)
          case atStart => exact ⟨0, Nat.zero_le _, rfl, Lib.hid HF.out, Below.refl _ _⟩
          case round =>
            obtain ⟨k, hk, rfl, hRk, hBw⟩ := hrel
            have hle2 := HLE.out
            have t0 := S0.out.below hBw S0.out.lt
            have t1 := S1.out.below hBw S1.out.lt
            have c0 := t0.cell 0 (by simp)
            have d0 := t1.cell 0 (by simp)
            have hBW := hB.trans (hBw.mono hB.size)
            by_cases hlt : k < L.length
            · have b5 : (k : Int) < (L.length : Int) := by omega
              have b6 : (k : Int) < (M.length : Int) := by omega
              have a5 : decide ((k : Int) < (L.length : Int)) = true := decide_eq_true b5
              have hkM : k < M.length := by omega
              clear hle2
              obtain ⟨bb, oo, rfl, _⟩ := nds_place HNL.out (by omega)
              obtain ⟨bc, oc, rfl, _⟩ := nds_place HNM.out (by omega)
              obtain ⟨m0, m1, m2, m3, m4, m5, m6, m7, m8⟩ := ndV_cells (CellsIn.below HNL.out hBW (Nat.le_refl _) : NdsIn wr (some ⟨bb, oo, none⟩) L) hlt
              obtain ⟨n0, n1, n2, n3, n4, n5, n6, n7, n8⟩ := ndV_cells (CellsIn.below HNM.out hBW (Nat.le_refl _) : NdsIn wr (some ⟨bc, oc, none⟩) M) hkM
              have hde := drop_eq hlt hkM
              obtain ⟨x, hx⟩ : ∃ x, L[k] = x := ⟨_, rfl⟩
              obtain ⟨y, hy⟩ : ∃ y, M[k] = y := ⟨_, rfl⟩
              rw [hx] at m0 m1 m2 m3 m4 m5 m6 m7 m8 hde
              rw [hy] at n0 n1 n2 n3 n4 n5 n6 n7 n8 hde
              have he := fun w => eq_nd x y w
              unfold ndV ndC at he
              obtain ⟨q, hq⟩ : ∃ q, decide (x = y) = q := ⟨_, rfl⟩
              rw [hq] at he
              have ww : IntKind.i64.wrap ((k : Int) + 1) = (k : Int) + 1 := jwrap (by omega) (by omega)
              have HDE := Lib.hid hde
              have HQ := Lib.hid hq
              clear hx hy hq hde t0 t1
              gi_wp2_with fail
              gi_big_quiet_th (fail)
              have hb9 : Below A.heap.size A (wr.drewN nq) := hBw.trans ((below_drewN (Below.refl wr.heap.size wr) nq).mono hBw.size)
              cases q with
              | true =>
                have hR2 : R = decide (L.drop (k + 1) = M.drop (k + 1)) := by
                  rw [hRk.out]
                  congr 1
                  apply propext
                  rw [HDE.out]
                  exact ⟨fun h => h.2, fun h => ⟨of_decide_eq_true HQ.out, h⟩⟩
                have HR2 := Lib.hid hR2
                clear hR2
                gi_wp2_with fail
                go_roundw
                case rel => exact ⟨k + 1, by omega, by go_num, HR2, hb9⟩
                case measure => simp [intOf]; omega
              | false =>
                have hR2 : R = false := by
                  rw [hRk.out]
                  exact decide_eq_false (fun h => (of_decide_eq_false HQ.out) (HDE.out.1 h).1)
                have HR2 := Lib.hid hR2
                have hb10 := hB.trans (hb9.mono hB.size)
                clear hR2
                gi_wp2_with fail
                refine bodyPost_ret (results_tmp rfl _ _ _) rfl ?_
                exact ⟨by rw [HR2.out]; rfl, hb10⟩
            · obtain rfl : k = L.length := by omega
              have hR2 : R = true := by
                rw [hRk.out, List.drop_length, hle2, List.drop_length]
                exact decide_eq_true rfl
              have HR2 := Lib.hid hR2
              have a5 : decide ((L.length : Int) < (L.length : Int)) = false := decide_eq_false (by omega)
              clear hR2 hle2
              gi_wp2_with fail
              refine bodyPost_ret (results_tmp rfl _ _ _) rfl ?_
              exact ⟨by rw [HR2.out]; rfl, hBW⟩
end Go.Proofs.YtdnbnigebejgjaaGreatDoor
namespace Go.Proofs.YtdnbnigebejgjaaGreatDoor
open Go.RowKit Go.Shelf
/-- The set of a byte. -/
def oneS (n : Nat) : WSet := addTo .empty (fun _ => n) 1
theorem lone_any (n : Nat) (hn : n < 256) (W : World) : Calls Tryz.prog 27 #[.int .u8 (n : Int)] W fun e w' => e = .returned (oneS n).v ∧ Below W.heap.size W w' := by
  have HO := Lib.hid fun (p : Option Addr) (w : World) h => refOf_any p 1 1 (fun _ => n) (by unfold maxLen; omega) w h
  obtain ⟨⟨a, b, c, d⟩, hs⟩ : ∃ s, oneS n = s := ⟨_, rfl⟩
  have hs2 : addTo .empty (fun _ => n) 1 = ⟨a, b, c, d⟩ := hs
  rw [hs2] at HO
  rw [hs]
  unfold WSet.v at HO ⊢
  have b0 : Blk (W.alloc (.cells #[.int .u64 0, .int .u64 0, .int .u64 0, .int .u64 0] 41)) W.heap.size .empty := Blk.new0 W
  clear hs hs2
  go_enter Tryz.func27, Tryz.ntmps27
  go_wp2_with fail
  generalize hX : (W.alloc (.cells #[.int .u64 0, .int .u64 0, .int .u64 0, .int .u64 0] 41)).alloc (.cells #[.int .u8 (n : Int)] 5) = X
  have b1 : Blk X W.heap.size .empty := by rw [← hX]; exact b0.alloc _
  have hB : Below W.heap.size W X := by rw [← hX]; exact ((Below.refl _ W).alloc (Nat.le_refl _) _).alloc (by simp) _
  have hc : X.cell? ⟨W.heap.size + 1, 0, none⟩ = some (.int .u8 (n : Int)) := by
    rw [← hX]
    have := (CBlk.new 5 (W.alloc (.cells #[.int .u64 0, .int .u64 0, .int .u64 0, .int .u64 0] 41)) [.int .u8 (n : Int)]).cell1
    rwa [World.size_alloc] at this
  have hz : X.heap.size = W.heap.size + 2 := by rw [← hX]; simp
  clear hX b0
  refine (HO.out _ X (fun j hj => ⟨hn, W.heap.size + 1, 0, rfl, by omega, by obtain rfl : j = 0 := (by omega); exact hc⟩)).mono ?_
  rintro e w5 ⟨rfl, hb⟩
  have b5 := b1.below hb b1.lt
  obtain ⟨f0, f1, f2, f3⟩ := b5.frees
  obtain ⟨k0, k1, k2, k3⟩ := b5.cells
  go_wp2_with fail
  exact bodyPost_ret ((b5.store ⟨a, b, c, d⟩).results rfl _ rfl) rfl ⟨rfl, Blk.belowStore ⟨a, b, c, d⟩ (hB.trans (hb.mono (by omega))) (Nat.le_refl _)⟩
theorem eq_fault (a b c d : Int) (w : World) : (Op.equalIn 10000 28 (.agg #[.int .i64 a, .int .i64 b]) (.agg #[.int .i64 c, .int .i64 d])).run Tryz.prog w = .ok (decide (a = c ∧ b = d)) w := by
  rw [run_equalIn_struct _ _ _ _ _ (by kernel_rfl) (by kernel_rfl)]
  simp only [Program.fieldsOf, Tryz.underlying28]
  have p0 : ∀ (x y : Int) w, (part 26 #[.int .i64 x, .int .i64 y] 0).run Tryz.prog w = .ok (.int .i64 x) w := fun _ _ _ => by kernel_rfl
  have p1 : ∀ (x y : Int) w, (part 3 #[.int .i64 x, .int .i64 y] 1).run Tryz.prog w = .ok (.int .i64 y) w := fun _ _ _ => by kernel_rfl
  have ei : ∀ (a b : Int) w, (Op.equalIn 9999 3 (.int .i64 a) (.int .i64 b)).run Tryz.prog w = .ok (a == b) w := fun a b w => run_equalIn_int w 9998 3 .i64 .i64 a b Tryz.underlying3
  have ee : ∀ (a b : Int) w, (Op.equalIn 9999 26 (.int .i64 a) (.int .i64 b)).run Tryz.prog w = .ok (a == b) w := fun a b w => run_equalIn_int w 9998 26 .i64 .i64 a b Tryz.underlying26
  simp only [Op.eqFields, Sem.run_bind, Sem.run_ite, Sem.run_pure, p0, p1, ei, ee, Result.andThen_ok]
  have k : ∀ x y : Int, (x == y) = decide (x = y) := fun _ _ => rfl
  rw [k, k]
  by_cases h1 : a = c <;> by_cases h2 : b = d <;> simp [h1, h2]
end Go.Proofs.YtdnbnigebejgjaaGreatDoor
