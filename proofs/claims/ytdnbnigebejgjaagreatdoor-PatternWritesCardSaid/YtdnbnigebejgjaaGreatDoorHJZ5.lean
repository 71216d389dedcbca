/-
  The reference's Check: the same as the program's, for all nodes.
-/
import Derived.Test.YtdnbnigebejgjaaGreatDoorHJZ4
namespace Go.Proofs.YtdnbnigebejgjaaGreatDoor
open Go.RowKit Go.Shelf
theorem tree_no {L : List ND} (h0 : 0 < L.length) (h : ¬(L[0].kind = 3 ∧ L[0].next = -1)) : treeB L = false := by
  cases ht : treeB L with
  | false => rfl
  | true =>
    exfalso
    obtain ⟨_, f2, f3⟩ := treeB_facts ht
    have hs := beh_snd f3
    have e0 : L.getD 0 (bare 0 .empty 0) = L[0] := by rw [List.getD_eq_getElem?_getD, List.getElem?_eq_getElem h0]; rfl
    rw [e0] at f2 hs
    exact h ⟨f2, ((own_snd _).1 hs).2 f2⟩
theorem tree_kids {L : List ND} (h0 : 0 < L.length) (hk : L[0].kind = 3) (hn : L[0].next = -1) {n nx' gr' : Nat} {bd' nb' : Bool} (h : KidsRes L 0 0 false false 0 n nx' gr' bd' nb') : (treeB L = true ↔ bd' = false ∧ nx' = L.length) ∧ (bd' = false → nx' = L.length → gr' = gct L ∧ nb' = !numOK L 0) := by
  obtain ⟨_, _, _, _, _, h2, h3⟩ := h
  have hc : ∀ {e m}, CH L 0 0 e m → NodeOK L L[0] 1 e := by
    intro e m hc
    rcases hc.inv with ⟨h, _⟩ | ⟨_, k2, m', _, _, _, a, b⟩
    · omega
    · rw [hn] at b
      rcases b.inv with ⟨_, rfl, _⟩ | ⟨_, _, _, h, _⟩
      · exact a
      · omega
  refine ⟨⟨fun ht => ?_, fun ⟨hb, hx⟩ => ?_⟩, fun hb hx => ?_⟩
  · have hnode := (tree_node h0 hk hn).1 ht
    have hch : CH L 0 ((0 : Nat) : Int) L.length 1 := .cons 0 L.length L.length 0 h0 trivial hnode (by rw [hn]; exact .nil _)
    have hb : bd' = false := by
      cases hbb : bd' with
      | false => rfl
      | true => exact absurd hch (h3 rfl hbb _ _)
    exact ⟨hb, (hc (h2 rfl hb).1).2.fun hnode.2⟩
  · have := hc (h2 rfl hb).1
    rw [hx] at this
    exact (tree_node h0 hk hn).2 this
  · obtain ⟨_, a, b⟩ := h2 rfl hb
    rw [hx, seg_all] at a b
    refine ⟨by omega, ?_⟩
    rw [b]
    rfl
set_option maxHeartbeats 8000000 in
set_option maxRecDepth 100000 in
theorem refCheck_any (L : List ND) (hL : L.length < 1000000000) (v : Value) (bb en : Bool) (g : Int) (W : World) (h : NdsAt W v L) :
    Calls Tryz.prog 14 #[.agg #[v, .bool bb, .bool en, .int .i64 g]] W fun e w' => e = .returned (.int .i64 (chkR L g)) ∧ Below W.heap.size W w' := by
  obtain ⟨p, cap, rfl, hcap, hN⟩ := h
  have hB1 : Below W.heap.size W (W.alloc (.cells #[.slice p L.length cap, .bool bb, .bool en, .int .i64 g] 25)) := (Below.refl _ W).alloc (Nat.le_refl _) _
  by_cases h2 : 200 < L.length
  · have HC : Hid (chkR L g = 5) := Lib.hid (if_pos h2)
    have a1 : decide ((200 : Int) < (L.length : Int)) = true := decide_eq_true (by omega)
    have a2 : decide (200 < L.length) = true := decide_eq_true h2
    clear h2 hN
    go_enter Tryz.func14, Tryz.ntmps14
    go_wp2_with fail
    go_ret
    exact ⟨by rw [HC.out]; rfl, hB1⟩
  have a1 : decide ((200 : Int) < (L.length : Int)) = false := decide_eq_false (by omega)
  have a2 : decide (200 < L.length) = false := decide_eq_false h2
  have hL2 : L.length ≤ 200 := by omega
  by_cases h0 : L.length = 0
  · have HC : Hid (chkR L g = 3) := Lib.hid (by
      have ht : treeB L = false := by unfold treeB; rw [decide_eq_false (by omega : ¬ 0 < L.length)]; rfl
      unfold chkR
      rw [if_neg h2, if_neg (by rw [ht]; decide)])
    have a3 : ((L.length : Int) == 0) = true := by rw [h0]; rfl
    have a4 : (L.length == 0) = true := by rw [h0]; rfl
    clear h2 h0 hN
    go_enter Tryz.func14, Tryz.ntmps14
    go_wp2_with fail
    go_ret
    exact ⟨by rw [HC.out]; rfl, hB1⟩
  have a3 : ((L.length : Int) == 0) = false := beq_eq_false_iff_ne.2 (by omega)
  have a4 : (L.length == 0) = false := beq_eq_false_iff_ne.2 h0
  have hpos : 0 < L.length := by omega
  have hposI : (0 : Int) < (L.length : Int) := by omega
  obtain ⟨b, off, rfl, hb⟩ := nds_place hN hpos
  obtain ⟨m0, _, _, _, _, _, _, _, m8⟩ := ndV_cells hN hpos
  obtain ⟨nd, hnd⟩ : ∃ n, L[0] = n := ⟨_, rfl⟩
  rw [hnd] at m0 m8
  rw [Nat.zero_mul, Nat.add_zero] at m0 m8
  have HND := Lib.hid hnd
  have HN := Lib.hid hN
  clear hnd hN
  by_cases hk : nd.kind = 3
  case neg =>
    have HC : Hid (chkR L g = 3) := Lib.hid (by
      have ht := tree_no hpos (fun h => hk (by rw [← HND.out]; exact h.1))
      unfold chkR
      rw [if_neg h2, if_neg (by rw [ht]; decide)])
    have a5 : (nd.kind != 3) = true := by simpa using hk
    clear h2 h0
    go_enter Tryz.func14, Tryz.ntmps14
    go_wp2_with fail
    go_ret
    exact ⟨by rw [HC.out]; rfl, hB1⟩
  have a5 : (nd.kind != 3) = false := by simpa using hk
  by_cases hn : nd.next = -1
  case neg =>
    have HC : Hid (chkR L g = 3) := Lib.hid (by
      have ht := tree_no hpos (fun h => hn (by rw [← HND.out]; exact h.2))
      unfold chkR
      rw [if_neg h2, if_neg (by rw [ht]; decide)])
    have a6 : (nd.next != -1) = true := by simpa using hn
    clear h2 h0 hk
    go_enter Tryz.func14, Tryz.ntmps14
    go_wp2_with fail
    go_ret
    exact ⟨by rw [HC.out]; rfl, hB1⟩
  have a6 : (nd.next != -1) = false := by simpa using hn
  have HK3 := Lib.hid hk
  have HNX := Lib.hid hn
  clear hk hn h0
  have t0 := CBlk.new 25 W [.slice (some ⟨b, off, none⟩) L.length cap, .bool bb, .bool en, .int .i64 g]
  go_enter Tryz.func14, Tryz.ntmps14
  go_wp2_with fail
  have hz1 : (W.alloc (.cells #[.slice (some ⟨b, off, none⟩) L.length cap, .bool bb, .bool en, .int .i64 g] 25)).heap.size = W.heap.size + 1 := by simp
  generalize hW1 : W.alloc (.cells #[.slice (some ⟨b, off, none⟩) L.length cap, .bool bb, .bool en, .int .i64 g] 25) = W1 at t0 hB1 hz1 ⊢
  have w0 := CBlk.new 76 W1 [.slice (some ⟨b, off, none⟩) L.length cap, .bool bb, .bool en, .int .i64 g, .int .i64 0, .int .i64 0, .bool false, .bool false]
  rw [hz1] at w0
  have hB2 := hB1.alloc hB1.size (.cells #[.slice (some ⟨b, off, none⟩) L.length cap, .bool bb, .bool en, .int .i64 g, .int .i64 0, .int .i64 0, .bool false, .bool false] 76)
  have t1 := t0.alloc (.cells #[.slice (some ⟨b, off, none⟩) L.length cap, .bool bb, .bool en, .int .i64 g, .int .i64 0, .int .i64 0, .bool false, .bool false] 76)
  generalize hW2 : W1.alloc (.cells #[.slice (some ⟨b, off, none⟩) L.length cap, .bool bb, .bool en, .int .i64 g, .int .i64 0, .int .i64 0, .bool false, .bool false] 76) = W2 at w0 hB2 t1 ⊢
  have hN2 := HN.out.below hB2 (Nat.le_refl _)
  have hb2 : b < W2.heap.size := Nat.lt_of_lt_of_le hb hB2.size
  have hK := Lib.hid (kids_all L (by omega) b off cap (W.heap.size + 1) (by omega) bb en g L.length 0 0 false false 0 W2 (by omega) (by omega) (by omega) hN2 hb2 w0)
  obtain ⟨S, hS⟩ : ∃ S, W.heap.size = S := ⟨_, rfl⟩
  rw [hS] at t1 hK hB2
  have hBS : Hid (Below S W W2) := Lib.hid hB2
  have hbS : Hid (W.heap.size = S) := Lib.hid hS
  rw [hS]
  clear hW1 hW2 hS w0 t0 hB1 hz1 hB2 hN2 HN m0 m8 hb hb2
  refine hK.out.mono ?_
  rintro e w3 ⟨n, nx', gr', bd', nb', rfl, hw3, hg3, hres⟩
  obtain ⟨r1, r2⟩ := tree_kids hpos (by rw [HND.out]; exact HK3.out) (by rw [HND.out]; exact HNX.out) hres
  have hne : some S ≠ some (S + 1) := by intro e; injection e; omega
  have t3 := t1.kept hg3 hne
  have hB3 : Below W.heap.size W w3 := by
    rw [hbS.out]
    have h1 := hBS.out
    refine ⟨hg3.os.trans h1.os, hg3.tape.trans h1.tape, hg3.output.trans h1.output, Nat.le_trans h1.size hg3.size, fun k hk => ?_⟩
    have hsz := h1.size
    rw [hbS.out] at hsz
    exact (hg3.block k (by omega) (fun e => by injection e; omega)).trans (h1.block k hk)
  have HB3 := Lib.hid hB3
  have R1 := Lib.hid r1
  have R2 := Lib.hid r2
  have c0 := t3.cell 0 (by simp)
  have c3 := t3.cell 3 (by simp)
  have d4 := CBlk.cell hw3 4 (by simp)
  have d5 := CBlk.cell hw3 5 (by simp)
  have d6 := CBlk.cell hw3 6 (by simp)
  have d7 := CBlk.cell hw3 7 (by simp)
  have hl3 := t3.lt
  have hl4 := CBlk.lt hw3
  clear hres r1 r2 hg3 hB3 hK t1 t3 hw3 hBS
  cases bd' with
  | true =>
    have HC : Hid (chkR L g = 3) := Lib.hid (by
      have ht : treeB L = false := by
        cases hh : treeB L with
        | false => rfl
        | true => have := (R1.out.1 hh).1; cases this
      unfold chkR
      rw [if_neg h2, if_neg (by rw [ht]; decide)])
    clear R1 R2 h2
    go_wp2_with fail
    go_region
    all_goals
      go_wp2_with fail
      go_ret
      exact ⟨by rw [HC.out]; rfl, HB3.out.drew⟩
  | false =>
    by_cases hx : nx' = L.length
    case neg =>
      have HC : Hid (chkR L g = 3) := Lib.hid (by
        have ht : treeB L = false := by
          cases hh : treeB L with
          | false => rfl
          | true => exact absurd (R1.out.1 hh).2 hx
        unfold chkR
        rw [if_neg h2, if_neg (by rw [ht]; decide)])
      have e1 : ((nx' : Int) != (L.length : Int)) = true := by simp; omega
      have e1' : (nx' != L.length) = true := by simpa using hx
      clear R1 R2 h2 hx
      go_wp2_with fail
      go_region
      all_goals
        go_wp2_with fail
        go_ret
        exact ⟨by rw [HC.out]; rfl, HB3.out.drew⟩
    have e1 : ((nx' : Int) != (L.length : Int)) = false := by rw [hx]; simp
    have ht := R1.out.2 ⟨rfl, hx⟩
    obtain ⟨q1, q2⟩ := R2.out rfl hx
    have hC : chkR L g = if nmB L g = true then 0 else 14 := by
      unfold chkR
      rw [if_neg h2, if_pos ht]
    have hnm : nmB L g = (!nb' && (decide ((gr' : Int) = g) && decide ((gr' : Int) ≤ 9))) := by
      unfold nmB
      rw [q1, q2, Bool.not_not]
    rw [hnm] at hC
    clear R1 R2 h2 hx ht q1 q2 hnm
    by_cases h9 : 9 < g
    · have e2 : decide (9 < g) = true := decide_eq_true h9
      have HC : Hid (chkR L g = 14) := Lib.hid (by
        rw [hC, if_neg]
        intro h
        simp only [Bool.and_eq_true, decide_eq_true_eq] at h
        omega)
      clear hC h9
      go_wp2_with fail
      go_region
      all_goals
        go_wp2_with fail
        go_region
        all_goals
          go_wp2_with fail
          go_ret
          exact ⟨by rw [HC.out]; rfl, HB3.out.drew.drew⟩
    have e2 : decide (9 < g) = false := decide_eq_false h9
    cases nb' with
    | true =>
      have HC : Hid (chkR L g = 14) := Lib.hid (by rw [hC]; rfl)
      clear hC h9
      go_wp2_with fail
      go_region
      all_goals
        go_wp2_with fail
        go_region
        all_goals
          go_wp2_with fail
          go_ret
          exact ⟨by rw [HC.out]; rfl, HB3.out.drew.drew⟩
    | false =>
      by_cases hgg : (gr' : Int) = g
      · have HC : Hid (chkR L g = 0) := Lib.hid (by rw [hC, hgg, decide_eq_true rfl, decide_eq_true (by omega : g ≤ 9)]; rfl)
        have e3 : ((gr' : Int) != g) = false := by simpa using hgg
        clear hC h9 hgg
        go_wp2_with fail
        go_region
        all_goals
          go_wp2_with fail
          go_region
          all_goals
            go_wp2_with fail
            go_ret
            exact ⟨by rw [HC.out]; rfl, HB3.out.drew.drew⟩
      · have HC : Hid (chkR L g = 14) := Lib.hid (by rw [hC, decide_eq_false hgg]; rfl)
        have e3 : ((gr' : Int) != g) = true := by simpa using hgg
        clear hC h9 hgg
        go_wp2_with fail
        go_region
        all_goals
          go_wp2_with fail
          go_region
          all_goals
            go_wp2_with fail
            go_ret
            exact ⟨by rw [HC.out]; rfl, HB3.out.drew.drew⟩
end Go.Proofs.YtdnbnigebejgjaaGreatDoor
