/-
  Two nodes are compared field by field; the program's test of a single node.
  A region that draws its order, of loads and quiet calls, in a round of a range over a function.
-/
import Derived.Test.YtdnbnigebejgjaaGreatDoorHR1
import Derived.Sort.BigQuietIn
namespace Go.Proofs.YtdnbnigebejgjaaGreatDoor
open Go.RowKit

theorem eq_nodes (m n : ND) (w : World) : (Op.equalIn 10000 54 (ndV m) (ndV n)).run Tryz.prog w =
    .ok (m.kind == n.kind && (m.times == n.times && (((m.set.a.toNat : Int) == n.set.a.toNat && ((m.set.b.toNat : Int) == n.set.b.toNat && ((m.set.c.toNat : Int) == n.set.c.toNat && (m.set.d.toNat : Int) == n.set.d.toNat))) && (m.group == n.group && (m.first == n.first && m.next == n.next))))) w := by
  unfold ndV ndC
  rw [run_equalIn_struct _ _ _ _ _ (by kernel_rfl) (by kernel_rfl)]
  simp only [Program.fieldsOf, Tryz.underlying54]
  have p0 : ∀ (x0 x1 y0 y1 y2 y3 x2 x3 x4 : Int) w, (part 3 #[.int .i64 x0, .int .i64 x1, .int .u64 y0, .int .u64 y1, .int .u64 y2, .int .u64 y3, .int .i64 x2, .int .i64 x3, .int .i64 x4] 0).run Tryz.prog w = .ok (.int .i64 x0) w := fun _ _ _ _ _ _ _ _ _ _ => by kernel_rfl
  have p1 : ∀ (x0 x1 y0 y1 y2 y3 x2 x3 x4 : Int) w, (part 3 #[.int .i64 x0, .int .i64 x1, .int .u64 y0, .int .u64 y1, .int .u64 y2, .int .u64 y3, .int .i64 x2, .int .i64 x3, .int .i64 x4] 1).run Tryz.prog w = .ok (.int .i64 x1) w := fun _ _ _ _ _ _ _ _ _ _ => by kernel_rfl
  have p2 : ∀ (x0 x1 y0 y1 y2 y3 x2 x3 x4 : Int) w, (part 41 #[.int .i64 x0, .int .i64 x1, .int .u64 y0, .int .u64 y1, .int .u64 y2, .int .u64 y3, .int .i64 x2, .int .i64 x3, .int .i64 x4] 2).run Tryz.prog w = .ok (.agg #[.int .u64 y0, .int .u64 y1, .int .u64 y2, .int .u64 y3]) w := fun _ _ _ _ _ _ _ _ _ _ => by kernel_rfl
  have p6 : ∀ (x0 x1 y0 y1 y2 y3 x2 x3 x4 : Int) w, (part 3 #[.int .i64 x0, .int .i64 x1, .int .u64 y0, .int .u64 y1, .int .u64 y2, .int .u64 y3, .int .i64 x2, .int .i64 x3, .int .i64 x4] 6).run Tryz.prog w = .ok (.int .i64 x2) w := fun _ _ _ _ _ _ _ _ _ _ => by kernel_rfl
  have p7 : ∀ (x0 x1 y0 y1 y2 y3 x2 x3 x4 : Int) w, (part 3 #[.int .i64 x0, .int .i64 x1, .int .u64 y0, .int .u64 y1, .int .u64 y2, .int .u64 y3, .int .i64 x2, .int .i64 x3, .int .i64 x4] 7).run Tryz.prog w = .ok (.int .i64 x3) w := fun _ _ _ _ _ _ _ _ _ _ => by kernel_rfl
  have p8 : ∀ (x0 x1 y0 y1 y2 y3 x2 x3 x4 : Int) w, (part 3 #[.int .i64 x0, .int .i64 x1, .int .u64 y0, .int .u64 y1, .int .u64 y2, .int .u64 y3, .int .i64 x2, .int .i64 x3, .int .i64 x4] 8).run Tryz.prog w = .ok (.int .i64 x4) w := fun _ _ _ _ _ _ _ _ _ _ => by kernel_rfl
  have ei : ∀ (a b : Int) w, (Op.equalIn 9999 3 (.int .i64 a) (.int .i64 b)).run Tryz.prog w = .ok (a == b) w := fun a b w => run_equalIn_int w 9998 3 .i64 .i64 a b Tryz.underlying3
  simp only [Op.eqFields, Sem.run_bind, Sem.run_ite, Sem.run_pure, p0, p1, p2, p6, p7, p8, ei, Result.andThen_ok, eq_sets_d]
  cases m.kind == n.kind <;> cases m.times == n.times <;> cases (m.set.a.toNat : Int) == n.set.a.toNat <;> cases (m.set.b.toNat : Int) == n.set.b.toNat <;> cases (m.set.c.toNat : Int) == n.set.c.toNat <;> cases (m.set.d.toNat : Int) == n.set.d.toNat <;> cases m.group == n.group <;> cases m.first == n.first <;> cases m.next == n.next <;> simp
theorem isNone_form (Z : WSet) : ((Z.a.toNat : Int) == 0 && ((Z.b.toNat : Int) == 0 && ((Z.c.toNat : Int) == 0 && (Z.d.toNat : Int) == 0))) = Z.isNone := by
  unfold WSet.isNone
  obtain ⟨a, b, c, d⟩ := Z
  have k : ∀ x : BitVec 64, ((x.toNat : Int) == 0) = decide (x = 0) := fun x => by
    by_cases h : x = 0
    · subst h; rfl
    · have : x.toNat ≠ 0 := fun e => h (BitVec.eq_of_toNat_eq e)
      rw [decide_eq_false h]
      simpa using this
  rw [k, k, k, k]
  unfold WSet.empty
  by_cases h1 : a = 0 <;> by_cases h2 : b = 0 <;> by_cases h3 : c = 0 <;> by_cases h4 : d = 0 <;> simp [h1, h2, h3, h4]
theorem eq_noneB (Z : WSet) (w : World) :
    (Op.equalIn 9999 41 (.agg #[.int .u64 (Z.a.toNat : Int), .int .u64 (Z.b.toNat : Int), .int .u64 (Z.c.toNat : Int), .int .u64 (Z.d.toNat : Int)]) (.agg #[.int .u64 0, .int .u64 0, .int .u64 0, .int .u64 0])).run Tryz.prog w = .ok (Z.isNone) w := by
  rw [eq_sets_d 9997, isNone_form]
attribute [local go_sem] eq_noneA eq_noneB
set_option maxHeartbeats 4000000 in
set_option maxRecDepth 100000 in
theorem isSound_any (n : ND) (w : World) : Calls Tryz.prog 87 #[ndV n] w fun e w' => e = .returned (.bool (sndB n)) ∧ Below w.heap.size w w' := by
  obtain ⟨k, t, Z, g, f, x⟩ := n
  have e : ∀ a b : Int, (a == b) = decide (a = b) := fun a b => rfl
  obtain ⟨q1, h1⟩ : ∃ q, decide (t = 0) = q := ⟨_, rfl⟩
  obtain ⟨q2, h2⟩ : ∃ q, Z.isNone = q := ⟨_, rfl⟩
  obtain ⟨q3, h3⟩ : ∃ q, decide (g = 0) = q := ⟨_, rfl⟩
  obtain ⟨q4, h4⟩ : ∃ q, decide (f = -1) = q := ⟨_, rfl⟩
  obtain ⟨q5, h5⟩ : ∃ q, decide (x = -1) = q := ⟨_, rfl⟩
  obtain ⟨q6, h6⟩ : ∃ q, decide (t = 3) = q := ⟨_, rfl⟩
  obtain ⟨q7, h7⟩ : ∃ q, decide (0 ≤ t) = q := ⟨_, rfl⟩
  obtain ⟨q8, h8⟩ : ∃ q, decide (t ≤ 3) = q := ⟨_, rfl⟩
  have g1 : (t == 0) = q1 := by rw [e, h1]
  have g3 : (g == 0) = q3 := by rw [e, h3]
  have g4 : (f == -1) = q4 := by rw [e, h4]
  have g5 : (x == -1) = q5 := by rw [e, h5]
  have g6 : (t == 3) = q6 := by rw [e, h6]
  have g4' : (f != -1) = !q4 := by rw [← g4]; rfl
  have n4 : decide (f ≠ -1) = !q4 := by rw [← h4, decide_not]
  by_cases k1 : k = 1
  · have HS : Hid (sndB ⟨k, t, Z, g, f, x⟩ = (q4 && q3 && !q2 && q7 && q8)) := Lib.hid (by unfold sndB; rw [if_pos k1, h4, h3, h2, h7, h8])
    subst k1
    clear e h1 h3 h4 h5 h6 n4
    unfold ndV ndC
    cases q4 with
    | false =>
      go_enter Tryz.func87, Tryz.ntmps87
      go_wp2_with fail
      go_ret
      exact ⟨by rw [HS.out]; rfl, by go_grown⟩
    | true =>
      cases q3 with
      | false =>
        go_enter Tryz.func87, Tryz.ntmps87
        go_wp2_with fail
        go_ret
        exact ⟨by rw [HS.out]; rfl, by go_grown⟩
      | true =>
        cases q2 with
        | false =>
          cases q7 with
          | false =>
            go_enter Tryz.func87, Tryz.ntmps87
            go_wp2_with fail
            go_ret
            exact ⟨by rw [HS.out]; rfl, by go_grown⟩
          | true =>
            cases q8 with
            | false =>
              go_enter Tryz.func87, Tryz.ntmps87
              go_wp2_with fail
              go_ret
              exact ⟨by rw [HS.out]; rfl, by go_grown⟩
            | true =>
              go_enter Tryz.func87, Tryz.ntmps87
              go_wp2_with fail
              go_ret
              exact ⟨by rw [HS.out]; rfl, by go_grown⟩
        | true =>
          go_enter Tryz.func87, Tryz.ntmps87
          go_wp2_with fail
          go_ret
          exact ⟨by rw [HS.out]; rfl, by go_grown⟩
  · have a1 : (k == 1) = false := by simpa using k1
    by_cases k2 : k = 2
    · have HS : Hid (sndB ⟨k, t, Z, g, f, x⟩ = (q1 && q2 && q3)) := Lib.hid (by unfold sndB; rw [if_neg k1, if_pos k2, h1, h2, h3])
      subst k2
      clear e h1 h3 h4 h5 h6 n4 k1 h7 h8 g4 g5 g6 g4'
      unfold ndV ndC
      cases q1 with
      | false =>
        go_enter Tryz.func87, Tryz.ntmps87
        go_wp2_with fail
        go_ret
        exact ⟨by rw [HS.out]; rfl, by go_grown⟩
      | true =>
        cases q2 with
        | false =>
          go_enter Tryz.func87, Tryz.ntmps87
          go_wp2_with fail
          go_ret
          exact ⟨by rw [HS.out]; rfl, by go_grown⟩
        | true =>
          cases q3 with
          | false =>
            go_enter Tryz.func87, Tryz.ntmps87
            go_wp2_with fail
            go_ret
            exact ⟨by rw [HS.out]; rfl, by go_grown⟩
          | true =>
            go_enter Tryz.func87, Tryz.ntmps87
            go_wp2_with fail
            go_ret
            exact ⟨by rw [HS.out]; rfl, by go_grown⟩
    · have a2 : (k == 2) = false := by simpa using k2
      by_cases k3 : k = 3
      · have HS : Hid (sndB ⟨k, t, Z, g, f, x⟩ = (q1 && q2 && q3 && !q4 && q5)) := Lib.hid (by unfold sndB; rw [if_neg k1, if_neg k2, if_pos k3, h1, h2, h3, n4, h5])
        subst k3
        clear e h1 h3 h4 h5 h6 n4 k1 k2 h7 h8 g6
        unfold ndV ndC
        cases q1 with
        | false =>
          go_enter Tryz.func87, Tryz.ntmps87
          go_wp2_with fail
          go_ret
          exact ⟨by rw [HS.out]; rfl, by go_grown⟩
        | true =>
          cases q2 with
          | false =>
            go_enter Tryz.func87, Tryz.ntmps87
            go_wp2_with fail
            go_ret
            exact ⟨by rw [HS.out]; rfl, by go_grown⟩
          | true =>
            cases q3 with
            | false =>
              go_enter Tryz.func87, Tryz.ntmps87
              go_wp2_with fail
              go_ret
              exact ⟨by rw [HS.out]; rfl, by go_grown⟩
            | true =>
              cases q4 with
              | false =>
                go_enter Tryz.func87, Tryz.ntmps87
                go_wp2_with fail
                go_ret
                exact ⟨by rw [HS.out]; rfl, by go_grown⟩
              | true =>
                go_enter Tryz.func87, Tryz.ntmps87
                go_wp2_with fail
                go_ret
                exact ⟨by rw [HS.out]; rfl, by go_grown⟩
      · have a3 : (k == 3) = false := by simpa using k3
        by_cases k4 : k = 4
        · have HS : Hid (sndB ⟨k, t, Z, g, f, x⟩ = (!q4 && q2 && (q1 || q6))) := Lib.hid (by unfold sndB; rw [if_neg k1, if_neg k2, if_neg k3, if_pos k4, n4, h2, h1, h6])
          subst k4
          clear e h1 h3 h4 h5 h6 n4 k1 k2 k3 h7 h8
          unfold ndV ndC
          cases q4 with
          | false =>
            cases q2 with
            | false =>
              go_enter Tryz.func87, Tryz.ntmps87
              go_wp2_with fail
              go_ret
              exact ⟨by rw [HS.out]; rfl, by go_grown⟩
            | true =>
              cases q1 with
              | false =>
                go_enter Tryz.func87, Tryz.ntmps87
                go_wp2_with fail
                go_ret
                exact ⟨by rw [HS.out]; rfl, by go_grown⟩
              | true =>
                go_enter Tryz.func87, Tryz.ntmps87
                go_wp2_with fail
                go_ret
                exact ⟨by rw [HS.out]; rfl, by go_grown⟩
          | true =>
            go_enter Tryz.func87, Tryz.ntmps87
            go_wp2_with fail
            go_ret
            exact ⟨by rw [HS.out]; rfl, by go_grown⟩
        · have a4 : (k == 4) = false := by simpa using k4
          have HS : Hid (sndB ⟨k, t, Z, g, f, x⟩ = false) := Lib.hid (by unfold sndB; rw [if_neg k1, if_neg k2, if_neg k3, if_neg k4])
          clear e h1 h3 h4 h5 h6 n4 k1 k2 k3 k4 h7 h8
          unfold ndV ndC
          go_enter Tryz.func87, Tryz.ntmps87
          go_wp2_with fail
          go_ret
          exact ⟨by rw [HS.out]; rfl, by go_grown⟩
end Go.Proofs.YtdnbnigebejgjaaGreatDoor
namespace Go.Proofs.YtdnbnigebejgjaaGreatDoor
open Go.RowKit Go.Shelf
/-- No operation defers a call. -/
def noDefer (ops : Array Oper) : Bool := ops.toList.all fun o => match o.op with
  | .defer _ => false
  | _ => true
theorem noDefer_at {ops : Array Oper} (h : noDefer ops = true) {i : Nat} {o : Oper} (hi : ops[i]? = some o) : ∀ c, o.op ≠ .defer c := by
  intro c e
  have hm : o ∈ ops.toList := by
    rw [Array.mem_toList_iff]
    exact Array.mem_of_getElem? hi
  have := List.all_eq_true.1 h o hm
  rw [e] at this
  cases this
section
variable {F : Fence} {n : Nat} {P : Program} {Q : Exit → Act → World → Prop} {ops : Array Oper}
theorem oper_lift (hro : F.round = none) (r : Nat) {o : Oper} (hd : ∀ c, o.op ≠ .defer c) {a : Act} {w : World} {K : Act → World → Prop} (h : o.wpIn F n P a w K Q) : o.wpIn (F.inRound r) n P a w K Q := by
  unfold Oper.wpIn at h ⊢
  refine ⟨h.1, ?_⟩
  have h2 := h.2
  rw [hro, Oper.semAt_none] at h2
  rw [Fence.inRound_round, Oper.semAt_some _ _ _ hd]
  exact h2
theorem any_lift (hro : F.round = none) (r : Nat) (hd : noDefer ops = true) (md : Region.Mode) : ∀ (fuel : Nat) (listed : Array Bool) (a : Act) (w : World), wpAnyIn F n P md ops Q fuel listed a w → wpAnyIn (F.inRound r) n P md ops Q fuel listed a w
  | 0, _, _, _, h => h
  | fuel + 1, listed, a, w, h => by
    refine ⟨h.1, fun i hi => ?_⟩
    have h2 := h.2 i hi
    unfold wpOpIn at h2 ⊢
    cases ho : ops[i]? with
    | none =>
      rw [ho] at h2
      exact any_lift hro r hd md fuel _ _ _ h2
    | some o =>
      rw [ho] at h2
      dsimp only at h2 ⊢
      split
      · rename_i hw
        rw [if_pos hw] at h2
        exact oper_lift hro r (noDefer_at hd ho) (Oper.wpIn_mono (fun a w => any_lift hro r hd md fuel _ a w) h2)
      · rename_i hw
        rw [if_neg hw] at h2
        exact ⟨h2.1, any_lift hro r hd md fuel _ _ _ h2.2⟩
theorem quiet_round {id r : Nat} {a : Act} {w : World} {l : List Oper} (hro : F.round = none) (hm : P.follows .mixedOrders = true) (hB : Region.lexB .any l.toArray = true) (hd : noDefer l.toArray = true)
    (h : wpQuietIn F n P l.toArray (fun w' => ∃ n, w' = w.drewN n) (fun a' => ∀ w', (∃ n, w' = w.drewN n) → Q .normal a' w') l a) : (Code.region id l.toArray true).wpIn (F.inRound r) n P Q a w := by
  simp only [Region.lexB, Bool.and_eq_true] at hB
  refine wpIn_region_any hm (any_lift hro r hd _ _ _ _ _ (wpAnyIn_of_quiet (C := fun w' => ∃ n, w' = w.drewN n) (Q := fun a' => ∀ w', (∃ n, w' = w.drewN n) → Q .normal a' w') hro (fun _ w' hw' h => h w' hw') _ _ _ _ ⟨1, rfl⟩ ?_))
  have := wpAnyQIn_lex (F := F) (n := n) (C := fun w' => ∃ n, w' = w.drewN n) (md := .any) hB.1 l 0 (Array.replicate l.length false) a (by simp) (by simpa using hB.2) h
  simpa using this
end
end Go.Proofs.YtdnbnigebejgjaaGreatDoor
