/-
  The runs of a set, ascending, each as long as possible: pattern.runs and its iterator.
  A range over an iterator whose round begins by making memory (a variable of the loop that has a place of its own).
-/
import Derived.Test.YtdnbnigebejgjaaGreatDoorHT1
namespace Go.Proofs.YtdnbnigebejgjaaGreatDoor
open Go.RowKit Go.Shelf
attribute [local go_sem] Oper.semAt_some Oper.askedIn wide_fn
/-- How many bytes of a list of bytes are one run, from n on. -/
def runN (l : List Nat) : Nat → Nat → Nat
  | 0, n => n
  | f + 1, n => if n < l.length ∧ l.getD n 0 = (l.getD (n - 1) 0 + 1) % 256 then runN l f (n + 1) else n
def runsF : Nat → List Nat → List (Nat × Nat)
  | 0, _ => []
  | f + 1, l => if l.length = 0 then [] else (l.getD 0 0, l.getD (runN l l.length 1 - 1) 0) :: runsF f (l.drop (runN l l.length 1))
theorem runN_ge (l : List Nat) : ∀ (f n : Nat), n ≤ runN l f n ∧ (n ≤ l.length → runN l f n ≤ l.length)
  | 0, n => ⟨Nat.le_refl _, fun h => h⟩
  | f + 1, n => by
    unfold runN
    split
    · have := runN_ge l f (n + 1)
      omega
    · exact ⟨Nat.le_refl _, fun h => h⟩
def runsE (l : List (Nat × Nat)) : List (Array Value) := l.map fun r => #[.agg #[.int .u8 (r.1 : Int), .int .u8 (r.2 : Int)]]
def runsR (s : WSet) : List (Nat × Nat) := runsF 257 (upto s 0 256)
theorem runs_any (s : WSet) (W : World) :
    Calls Tryz.prog 99 #[s.v] W fun e w' => e = .returned (.func (.func 114) #[] #[.pointer (some ⟨W.heap.size, 0, none⟩)]) ∧ w' = W.alloc (.cells #[.int .u64 (s.a.toNat : Int), .int .u64 (s.b.toNat : Int), .int .u64 (s.c.toNat : Int), .int .u64 (s.d.toNat : Int)] 41) := by
  unfold WSet.v
  go_enter Tryz.func99, Tryz.ntmps99
  go_wp2
  go_ret
  exact ⟨rfl, rfl⟩
theorem upto_lt {s : WSet} {x : Nat} (h : x ∈ upto s 0 256) : x < 256 := by
  unfold upto at h
  simp at h
  omega
/-- The bytes from k on, in memory. -/
def RestAt (X : World) (g k : Nat) (l : List Nat) : Prop := g < X.heap.size ∧ ∀ i, i < l.length → X.cell? ⟨g, k + i, none⟩ = some (.int .u8 ((l.getD i 0 : Nat) : Int))
theorem RestAt.keeps {X X' : World} {g k : Nat} {l : List Nat} {ks : Nat → Prop} (h : RestAt X g k l) (hk : KeepsAt ks X X') (hg : ks g) (hz : X.heap.size ≤ X'.heap.size) : RestAt X' g k l :=
  ⟨Nat.lt_of_lt_of_le h.1 hz, fun i hi => (hk.cell (p := ⟨g, k + i, none⟩) hg).trans (h.2 i hi)⟩
theorem RestAt.drop {X : World} {g k : Nat} {l : List Nat} (h : RestAt X g k l) (n : Nat) : RestAt X g (k + n) (l.drop n) := by
  refine ⟨h.1, fun i hi => ?_⟩
  rw [List.length_drop] at hi
  have := h.2 (n + i) (by omega)
  rw [← Nat.add_assoc] at this
  rw [this, List.getD_eq_getElem?_getD, List.getD_eq_getElem?_getD, List.getElem?_drop]
theorem yq {e : Ending} {A B : Prop} (h : (e = .returned (.bool true) ∧ A) ∨ (e = .returned (.bool false) ∧ B)) : ∃ q, e = .returned (.bool q) ∧ ((q = true ∧ A) ∨ (q = false ∧ B)) := by
  rcases h with ⟨h, a⟩ | ⟨h, b⟩
  · exact ⟨true, h, .inl ⟨rfl, a⟩⟩
  · exact ⟨false, h, .inr ⟨rfl, b⟩⟩
set_option maxHeartbeats 8000000 in
set_option maxRecDepth 100000 in
theorem runs_iter (s : WSet) (b1 : Nat) (ks : Nat → Prop) (w0 : World) (hT : Tab w0) (h0w : 1 < w0.heap.size) (h1 : Blk w0 b1 s) :
    IterN 114 #[.pointer (some ⟨b1, 0, none⟩)] (runsE (runsR s)) ks w0 := by
  intro n lp J Jx W hW hJ hX hY h0
  have hTW := hT.below hW h0w
  have hB := h1.below hW h1.lt
  have hWz := hW.size
  obtain ⟨a, b, c, d⟩ := s
  obtain ⟨c0, c1, c2, c3⟩ := hB.cells
  have HL := Lib.hid (list_any a b c d W hTW (by omega))
  have HY := Lib.hid hY
  have HJ := Lib.hid hJ
  have HJ0 := Lib.hid h0
  obtain ⟨U, hU⟩ : ∃ U, upto ⟨a, b, c, d⟩ 0 256 = U := ⟨_, rfl⟩
  have hlt : ∀ x ∈ U, x < 256 := fun x hx => upto_lt (hU ▸ hx)
  have hUl : U.length ≤ 256 := by rw [← hU]; exact upto_length _ _ _
  have HR : Hid (runsR ⟨a, b, c, d⟩ = runsF 257 U) := Lib.hid (by unfold runsR; rw [hU])
  rw [HR.out] at HY ⊢
  rw [hU] at HL
  clear hY hJ hX h0 hTW hT h1 hB hW hU
  refine callsIn_of_wp Tryz.func114 rfl trivial ?_ rfl
  simp only [Tryz.ntmps114, List.size_toArray, List.length_cons, List.length_nil, Nat.reduceAdd, Nat.reduceSub, Array.replicate_succ, Array.replicate_zero, List.push_toArray, List.append_toArray, List.nil_append, List.cons_append]
  gi_wp2_with fail
  refine ⟨(fun h => by cases h), (callsIn_wide.2 HL.out).mono ?_⟩
  rintro e w1 ⟨v, rfl, hrow, hnil, hB1⟩
  have hJ1 : J 0 w1 := HJ.out _ _ _ _ HJ0.out (jgbe (jgrefl W none) hB1) (fun r e => by cases e)
  have hst : ∃ p c, v = .slice p U.length c ∧ U.length ≤ c ∧ c ≤ 9223372036854775807 ∧ (U ≠ [] → ∃ g k, p = some ⟨g, k, none⟩ ∧ W.heap.size ≤ g ∧ RestAt w1 g k U) := by
    rcases hrow.2 with ⟨rfl, hz⟩ | ⟨g, cap, cur, rfl, hg, hgb, hc1, hc2, _⟩
    · exact ⟨none, 0, by rw [hz], by omega, by omega, fun hne => absurd (List.eq_nil_of_length_eq_zero hz) hne⟩
    · refine ⟨_, cap, rfl, hc1, (by unfold maxLen at hc2; omega), fun _ => ⟨g, 0, rfl, hg, (hrow.lt g rfl).2, fun i hi => ?_⟩⟩
      have h2 := hrow.cellAt i (by omega)
      rw [Nat.zero_add]
      rw [h2, List.getElem?_map, List.getD_eq_getElem?_getD, List.getElem?_eq_getElem hi]
      have := hlt _ (List.getElem_mem hi)
      unfold enc8
      show some (Value.int .u8 ((U[i] : Int) % 256)) = _
      rw [Int.emod_eq_of_lt (by omega) (by omega)]
      rfl
  obtain ⟨p, cap, rfl, hcap, hcm, hrest⟩ := hst
  have HREST := Lib.hid hrest
  have HJ1 := Lib.hid hJ1
  have hz1 := hB1.size
  clear hrow hnil hB1 hrest hJ1 c0 c1 c2 c3
  gi_wp2_with fail
  gi_loopw [3] (fun l wr => ∃ (f k j : Nat) (r : List Nat) (p : Option Addr) (c : Nat), l = .slice p r.length c ∧ r.length ≤ c ∧ c ≤ 9223372036854775807 ∧ r.length < f ∧ r.length ≤ 256 ∧ Hid (runsE (runsF f r) = (runsE (runsF 257 U)).drop j) ∧ Hid (j + (runsE (runsF f r)).length = (runsE (runsF 257 U)).length) ∧ Hid (∀ x ∈ r, x < 256) ∧ Hid (r ≠ [] → ∃ g, p = some ⟨g, k, none⟩ ∧ W.heap.size ≤ g ∧ RestAt wr g k r) ∧ Hid (J j wr) ∧ W.heap.size ≤ wr.heap.size) (fun l _ => match l with | .slice _ m _ => m | _ => 0)
  case atStart =>
    by_cases hne : U = []
    · exact ⟨257, 0, 0, U, p, cap, rfl, hcap, hcm, by omega, hUl, Lib.hid rfl, Lib.hid (Nat.zero_add _), Lib.hid hlt, Lib.hid (fun h => absurd hne h), HJ1, hz1⟩
    · obtain ⟨g, k, hp, hg, hr⟩ := HREST.out hne
      exact ⟨257, k, 0, U, p, cap, rfl, hcap, hcm, by omega, hUl, Lib.hid rfl, Lib.hid (Nat.zero_add _), Lib.hid hlt, Lib.hid (fun _ => ⟨g, hp, hg, hr⟩), HJ1, hz1⟩
  case round =>
    rename World => wo
    obtain ⟨f, k, j, r, p, c, rfl, hrc, hcm, hrf, hr2, hE, hjl, hlt, hrest, hJj, hzr⟩ := hrel
    by_cases hne : r = []
    · subst hne
      have hres : j = (runsE (runsF 257 U)).length := by
        have := hjl.out
        rw [show runsF f [] = [] by cases f <;> rfl] at this
        exact this
      have HJF : Hid (J (runsE (runsF 257 U)).length wo) := Lib.hid (hres ▸ hJj.out)
      clear hres hE hjl hrest hJj
      gi_wp2
      go_end0
      exact ⟨⟨_, rfl⟩, .inl HJF.out⟩
    · obtain ⟨g, rfl, hg, hr⟩ := hrest.out hne
      have hlp : 0 < r.length := List.length_pos_iff.2 hne
      obtain ⟨f', rfl⟩ : ∃ f', f = f' + 1 := ⟨f - 1, by omega⟩
      obtain ⟨N, hN⟩ : ∃ N, runN r r.length 1 = N := ⟨_, rfl⟩
      have hNg := runN_ge r r.length 1
      rw [hN] at hNg
      have hE2 := hE.out
      have hjl2 := hjl.out
      rw [show runsF (f' + 1) r = (r.getD 0 0, r.getD (N - 1) 0) :: runsF f' (r.drop N) by rw [runsF, if_neg (by omega), hN]] at hE2 hjl2
      obtain ⟨lo, hlo⟩ : ∃ x, r.getD 0 0 = x := ⟨_, rfl⟩
      obtain ⟨hi, hhi⟩ : ∃ x, r.getD (N - 1) 0 = x := ⟨_, rfl⟩
      rw [hlo, hhi] at hE2 hjl2
      have HE2 := Lib.hid hE2
      have HJL := Lib.hid hjl2
      have HHI := Lib.hid hhi
      have HLO := Lib.hid hlo
      have HR2 := Lib.hid hr
      have a1 : decide (0 < r.length) = true := decide_eq_true hlp
      have HN0 : Hid (runN r r.length 1 = N) := Lib.hid hN
      clear hE hjl hrest hE2 hjl2 hne hN hlo hhi hr HREST HR HL
      gi_wp2_with fail
      gi_loopw [4] (fun x wr' => ∃ m fu : Nat, Below wo.heap.size wo wr' ∧ x = .int .i64 ((m + 1 : Nat) : Int) ∧ m + 1 ≤ r.length ∧ r.length ≤ m + 1 + fu ∧ Hid (runN r fu (m + 1) = N)) (fun x _ => r.length - (intOf x).toNat)
      case atStart => exact ⟨0, r.length, Below.refl _ _, rfl, hlp, by omega, HN0⟩
      case round =>
        rename World => wr'
        obtain ⟨m, fu, hbw, rfl, hml, hmf, hrn⟩ := hrel
        have hr3 : RestAt wr' g k r := HR2.out.keeps (KeepsAt.below hbw (ks := fun i => i < wo.heap.size) (fun i hi => hi)) HR2.out.1 hbw.size
        have b0 := hr3.2 m (by omega)
        have w1 : IntKind.i64.wrap ((m : Int) + 1 - 1) = (m : Int) := by rw [jwrap (by omega) (by omega)]; omega
        by_cases hmr : m + 1 < r.length
        · have b1 := hr3.2 (m + 1) hmr
          obtain ⟨y, hy⟩ : ∃ y, r.getD m 0 = y := ⟨_, rfl⟩
          obtain ⟨x, hx⟩ : ∃ x, r.getD (m + 1) 0 = x := ⟨_, rfl⟩
          obtain ⟨q, hq⟩ : ∃ q, decide (x = (y + 1) % 256) = q := ⟨_, rfl⟩
          rw [hy] at b0
          rw [hx] at b1
          have a2 : decide (m + 1 < r.length) = true := decide_eq_true hmr
          have a3 : decide ((m : Int) + 1 < (r.length : Int)) = true := decide_eq_true (by omega)
          have b2 : ((m : Int) + 1) < (r.length : Int) := by omega
          have b3 : (m : Int) < (r.length : Int) := by omega
          have hq2 : ((x : Int) == ((y : Int) + 1) % 256) = q := by
            rw [← hq]
            show decide ((x : Int) = ((y : Int) + 1) % 256) = _
            congr 1
            apply propext
            omega
          have hrn2 := hrn.out
          obtain ⟨fu', rfl⟩ : ∃ fu', fu = fu' + 1 := ⟨fu - 1, by omega⟩
          rw [runN, Nat.add_sub_cancel, hx, hy] at hrn2
          have hq3 : (m + 1 < r.length ∧ x = (y + 1) % 256) ↔ q = true := by rw [← hq, decide_eq_true_eq]; exact ⟨fun h => h.2, fun h => ⟨hmr, h⟩⟩
          cases q with
          | true =>
            rw [if_pos (hq3.2 rfl)] at hrn2
            have HRN := Lib.hid hrn2
            clear hx hy hq hq3 hrn2 hrn
            gi_wp2_with fail
            gi_big_quiet_th (fail)
            have hbY : Below wo.heap.size wo (wr'.drewN nq) := hbw.trans ((below_drewN (Below.refl wr'.heap.size wr') nq).mono hbw.size)
            have ww : IntKind.i64.wrap (((m + 1 : Nat) : Int) + 1) = ((m + 1 + 1 : Nat) : Int) := by rw [jwrap (by omega) (by omega)]; omega
            have HBY := Lib.hid hbY
            clear hbY
            gi_wp2_with fail
            go_roundw
            case rel => exact ⟨m + 1, fu', HBY.out, by first | rfl | (simp only [ww]), by omega, by omega, HRN⟩
            case measure => simp [intOf]; omega
          | false =>
            rw [if_neg (fun h => by have := hq3.1 h; cases this)] at hrn2
            have HNM : Hid (N = m + 1) := Lib.hid hrn2.symm
            clear hx hy hq hq3 hrn2 hrn
            gi_wp2_with fail
            gi_big_quiet_th (fail)
            clear b0 b1
            obtain rfl : N = m + 1 := HNM.out
            have hbY : Below wo.heap.size wo (wr'.drewN nq) := hbw.trans ((below_drewN (Below.refl wr'.heap.size wr') nq).mono hbw.size)
            generalize wr'.drewN nq = Y at hbY ⊢
            have hYd : Below wo.heap.size wo Y.drew := hbY.drew
            have hrY : RestAt Y.drew g k r := HR2.out.keeps (KeepsAt.below hYd (ks := fun i => i < wo.heap.size) (fun i hi => hi)) HR2.out.1 hYd.size
            have hJY : J j Y.drew := HJ.out _ _ _ _ hJj.out (jgbe (jgrefl wo none) hYd) (fun r e => by cases e)
            have hzY : W.heap.size ≤ Y.drew.heap.size := Nat.le_trans hzr hYd.size
            have hjlt : j < (runsE (runsF 257 U)).length := by have := HJL.out; unfold runsE at this; rw [List.length_map, List.length_cons, List.length_map] at this; unfold runsE; rw [List.length_map]; omega
            have hEj : (runsE (runsF 257 U))[j] = #[.agg #[.int .u8 (lo : Int), .int .u8 (hi : Int)]] := by
              have := HE2.out
              rw [List.drop_eq_getElem_cons hjlt] at this
              exact (List.cons.inj this).1.symm
            obtain ⟨fn, tmps, assign, body, hy, hRY⟩ := HY.out j hjlt (n - 1) Y.drew hJY hzY
            rw [hEj] at hy
            have HRY := Lib.hid hRY
            have e0 := hrY.2 0 hlp
            have e1 := hrY.2 m (by omega)
            have hhi := HHI.out
            have hlo := HLO.out
            rw [Nat.add_sub_cancel] at hhi
            rw [hlo, Nat.add_zero] at e0
            rw [hhi] at e1
            have b5 : (m : Int) < (r.length : Int) := by omega
            have b6 : (0 : Int) < (r.length : Int) := by omega
            clear hRY hEj hhi hlo hbY hJY
            gi_wp2_with fail
            have w2 : IntKind.i64.wrap (m : Int) = (m : Int) := jwrap (by omega) (by omega)
            have w3 : IntKind.i64.wrap (((m + 1 : Nat) : Int) - 1) = (m : Int) := by rw [jwrap (by omega) (by omega)]; omega
            have a7 : decide (0 < r.length) = true := decide_eq_true hlp
            have a8 : decide (m < r.length) = true := decide_eq_true (by omega)
            gi_region_with (refine ⟨(fun h => by cases h), HRY.out.mono ?_⟩; rintro e w5 h5; obtain ⟨q5, rfl, h6⟩ := yq h5; clear h5)
            all_goals
              rcases h6 with ⟨rfl, hJ5, hK5, hz5⟩ | ⟨rfl, hX5, _, _⟩
              · have hr5 : RestAt w5 g k r := hrY.keeps hK5 (.inr ⟨hg, hrY.1⟩) hz5
                have HR5 := Lib.hid (hr5.drop (m + 1))
                have HJ5 := Lib.hid hJ5
                have hE6 : runsE (runsF f' (r.drop (m + 1))) = (runsE (runsF 257 U)).drop (j + 1) := by
                  have := HE2.out
                  rw [List.drop_eq_getElem_cons hjlt] at this
                  exact (List.cons.inj this).2
                have HE6 := Lib.hid hE6
                have hjl6 : j + 1 + (runsE (runsF f' (r.drop (m + 1)))).length = (runsE (runsF 257 U)).length := by
                  have := HJL.out
                  unfold runsE at this ⊢
                  rw [List.length_map, List.length_cons] at this
                  rw [List.length_map]
                  omega
                have HJL6 := Lib.hid hjl6
                have HLT6 : Hid (∀ x ∈ r.drop (m + 1), x < 256) := Lib.hid (fun x hx => hlt.out x (List.mem_of_mem_drop hx))
                have a8 : decide (((m + 1 : Nat) : Int) ≤ (r.length : Int)) = true := decide_eq_true (by omega)
                have hdl : (r.drop (m + 1)).length = r.length - (m + 1) := List.length_drop
                have b8 : ((m + 1 : Nat) : Int) ≤ (r.length : Int) := by omega
                clear hy e0 e1 hrY hJ5 hK5 hr5 hE6 hjl6
                gi_wp2_with fail
                go_roundw
                case rel => exact ⟨f', k + (m + 1), j + 1, r.drop (m + 1), _, c - (m + 1), by rw [hdl], by omega, by omega, by omega, by omega, HE6, HJL6, HLT6, Lib.hid (fun _ => ⟨g, rfl, hg, HR5.out⟩), HJ5, by have := hYd.size; omega⟩
                case measure => simp; omega
              · have HX5 := Lib.hid hX5
                clear hy e0 e1 hrY hX5
                gi_wp2_with fail
                refine bodyPost_ret (results_none rfl _ _ _) rfl ?_
                exact ⟨⟨_, rfl⟩, .inr ⟨_, HX5.out⟩⟩
        · have hNM : N = m + 1 := by
            rw [← hrn.out]
            cases fu with
            | zero => rfl
            | succ fu => exact if_neg (fun h => hmr h.1)
          have HNM := Lib.hid hNM
          have a2 : decide (m + 1 < r.length) = false := decide_eq_false hmr
          have a3 : decide ((m : Int) + 1 < (r.length : Int)) = false := decide_eq_false (by omega)
          clear hNM hrn
          gi_wp2_with fail
          gi_big_quiet_th (fail)
          clear b0
          obtain rfl : N = m + 1 := HNM.out
          have hbY : Below wo.heap.size wo (wr'.drewN nq) := hbw.trans ((below_drewN (Below.refl wr'.heap.size wr') nq).mono hbw.size)
          generalize wr'.drewN nq = Y at hbY ⊢
          have hYd : Below wo.heap.size wo Y.drew := hbY.drew
          have hrY : RestAt Y.drew g k r := HR2.out.keeps (KeepsAt.below hYd (ks := fun i => i < wo.heap.size) (fun i hi => hi)) HR2.out.1 hYd.size
          have hJY : J j Y.drew := HJ.out _ _ _ _ hJj.out (jgbe (jgrefl wo none) hYd) (fun r e => by cases e)
          have hzY : W.heap.size ≤ Y.drew.heap.size := Nat.le_trans hzr hYd.size
          have hjlt : j < (runsE (runsF 257 U)).length := by have := HJL.out; unfold runsE at this; rw [List.length_map, List.length_cons, List.length_map] at this; unfold runsE; rw [List.length_map]; omega
          have hEj : (runsE (runsF 257 U))[j] = #[.agg #[.int .u8 (lo : Int), .int .u8 (hi : Int)]] := by
            have := HE2.out
            rw [List.drop_eq_getElem_cons hjlt] at this
            exact (List.cons.inj this).1.symm
          obtain ⟨fn, tmps, assign, body, hy, hRY⟩ := HY.out j hjlt (n - 1) Y.drew hJY hzY
          rw [hEj] at hy
          have HRY := Lib.hid hRY
          have e0 := hrY.2 0 hlp
          have e1 := hrY.2 m (by omega)
          have hhi := HHI.out
          have hlo := HLO.out
          rw [Nat.add_sub_cancel] at hhi
          rw [hlo, Nat.add_zero] at e0
          rw [hhi] at e1
          have b5 : (m : Int) < (r.length : Int) := by omega
          have b6 : (0 : Int) < (r.length : Int) := by omega
          clear hRY hEj hhi hlo hbY hJY
          gi_wp2_with fail
          have w2 : IntKind.i64.wrap (m : Int) = (m : Int) := jwrap (by omega) (by omega)
          have w3 : IntKind.i64.wrap (((m + 1 : Nat) : Int) - 1) = (m : Int) := by rw [jwrap (by omega) (by omega)]; omega
          have a7 : decide (0 < r.length) = true := decide_eq_true hlp
          have a8 : decide (m < r.length) = true := decide_eq_true (by omega)
          gi_region_with (refine ⟨(fun h => by cases h), HRY.out.mono ?_⟩; rintro e w5 h5; obtain ⟨q5, rfl, h6⟩ := yq h5; clear h5)
          all_goals
            rcases h6 with ⟨rfl, hJ5, hK5, hz5⟩ | ⟨rfl, hX5, _, _⟩
            · have hr5 : RestAt w5 g k r := hrY.keeps hK5 (.inr ⟨hg, hrY.1⟩) hz5
              have HR5 := Lib.hid (hr5.drop (m + 1))
              have HJ5 := Lib.hid hJ5
              have hE6 : runsE (runsF f' (r.drop (m + 1))) = (runsE (runsF 257 U)).drop (j + 1) := by
                have := HE2.out
                rw [List.drop_eq_getElem_cons hjlt] at this
                exact (List.cons.inj this).2
              have HE6 := Lib.hid hE6
              have hjl6 : j + 1 + (runsE (runsF f' (r.drop (m + 1)))).length = (runsE (runsF 257 U)).length := by
                have := HJL.out
                unfold runsE at this ⊢
                rw [List.length_map, List.length_cons] at this
                rw [List.length_map]
                omega
              have HJL6 := Lib.hid hjl6
              have HLT6 : Hid (∀ x ∈ r.drop (m + 1), x < 256) := Lib.hid (fun x hx => hlt.out x (List.mem_of_mem_drop hx))
              have a8 : decide (((m + 1 : Nat) : Int) ≤ (r.length : Int)) = true := decide_eq_true (by omega)
              have hdl : (r.drop (m + 1)).length = r.length - (m + 1) := List.length_drop
              have b8 : ((m + 1 : Nat) : Int) ≤ (r.length : Int) := by omega
              clear hy e0 e1 hrY hJ5 hK5 hr5 hE6 hjl6
              gi_wp2_with fail
              go_roundw
              case rel => exact ⟨f', k + (m + 1), j + 1, r.drop (m + 1), _, c - (m + 1), by rw [hdl], by omega, by omega, by omega, by omega, HE6, HJL6, HLT6, Lib.hid (fun hne => absurd (List.drop_eq_nil_of_le (by omega)) hne), HJ5, by have := hYd.size; omega⟩
              case measure => simp; omega
            · have HX5 := Lib.hid hX5
              clear hy e0 e1 hrY hX5
              gi_wp2_with fail
              refine bodyPost_ret (results_none rfl _ _ _) rfl ?_
              exact ⟨⟨_, rfl⟩, .inr ⟨_, HX5.out⟩⟩
end Go.Proofs.YtdnbnigebejgjaaGreatDoor
namespace Go.Proofs.YtdnbnigebejgjaaGreatDoor
open Go.RowKit Go.Shelf
set_option maxHeartbeats 2000000 in
theorem rangeA {n : Nat} {g : Operand} {ps : Array Tmp} {assign body : Code} {Q : Exit → Act → World → Prop} {a : Act} {w : World}
    {fid : Nat} {lb : Array Value} {E : List (Array Value)} {ks : Nat → Prop}
    (hg : a.eval g = .func (.func fid) #[] lb) (eg : ∀ args w, (callFunc fid args).run Tryz.prog w = .ok (.enter fid args) w)
    (hE : ∀ j (hj : j < E.length), (E[j]).size = ps.size) (hit : IterN fid lb E ks w) (hks : ∀ k, ks k → k < w.heap.size)
    (I : Nat → World → Prop) (Ix : World → Prop)
    (hI : ∀ j X X' row, I j X → X.grownBy X' row → (∀ r, row = some r → w.heap.size ≤ r) → I j X')
    (hIx : ∀ X X' row, Ix X → X.grownBy X' row → (∀ r, row = some r → w.heap.size ≤ r) → Ix X')
    (h0 : I 0 w)
    (hround : ∀ j (hj : j < E.length) m X, I j X → w.heap.size + 2 ≤ X.heap.size →
      assign.wpIn (Fence.wide.inRound (w.heap.size + 1)) m Tryz.prog
        (Exit.then (fun a₁ w₁ => Below X.heap.size X w₁ ∧ ∀ w₂, w₁.grownBy w₂ (some (w.heap.size + 1)) → body.wpIn (Fence.wide.inRound (w.heap.size + 1)) m Tryz.prog (bodyN w.heap.size ks (I (j + 1)) Ix w₂) a₁ w₂) (fun _ _ _ => False))
        { tmps := (ps.zip E[j]).foldl (fun t (p, v) => t.setIfInBounds p v) a.tmps, defers := [] } X)
    (hdone : ∀ W', I E.length W' → w.heap.size + 2 ≤ W'.heap.size → W'.heap[w.heap.size]? = some (.deferred (some [])) → Q .normal { a with defers := { target := .collected w.heap.size, args := #[] } :: a.defers } W')
    (hstop : ∀ W', Ix W' → W'.heap[w.heap.size]? = some (.deferred (some [])) → Code.ret.wpIn Fence.wide n Tryz.prog Q { a with defers := { target := .collected w.heap.size, args := #[] } :: a.defers } W') :
    (Code.rangeFunc g ps assign body).wpIn Fence.wide n Tryz.prog Q a w := by
  refine wpIn_rangeFunc ?_
  intro fn hfn
  obtain ⟨R, hR⟩ : ∃ R, R = jrec fn a.tmps ps assign body w.heap.size := ⟨_, rfl⟩
  obtain ⟨W1, hW1⟩ : ∃ W1, (w.alloc (.deferred (some []))).alloc (.loop (R .ready none)) = W1 := ⟨_, rfl⟩
  have hL1 : W1.heap[w.heap.size + 1]? = some (.loop (R .ready none)) := by
    rw [← hW1]
    have := World.alloc_heap_new (w.alloc (.deferred (some []))) (.loop (R .ready none))
    rwa [World.size_alloc] at this
  have hK1 : W1.heap[w.heap.size]? = some (.deferred (some [])) := by
    rw [← hW1]
    exact (Below.heap_alloc _ _ _ (by simp)).trans (World.alloc_heap_new w _)
  have hgN : w.grownBy W1 none := by
    rw [← hW1]
    exact jgal (jgal (jgrefl _ _) _) _
  have hbN : Below w.heap.size w W1 := by
    rw [← hW1]
    exact ((Below.refl _ w).alloc (Nat.le_refl _) _).alloc (by simp) _
  have hsz1 : W1.heap.size = w.heap.size + 2 := by rw [← hW1]; simp
  refine ⟨w.heap.size + 1, [{ target := .collected w.heap.size, args := #[] }], W1, { target := .fn (.func fid) lb, args := #[.func (.yield (w.heap.size + 1)) #[] #[]] }, W1, fid,
    #[.func (.yield (w.heap.size + 1)) #[] #[]] ++ lb, W1, ?_, ?_, ?_, ?_, (fun h => by cases h), ?_⟩
  · rw [← hW1, hR]
    exact run_enterLoop_outer _ _ _ _ _
  · simp only [resolve, hg]
    simp [go_sem]
  · intro f' hf'
    trivial
  · simp [invoke, go_sem, eg]
  · refine (hit (n - 1) (w.heap.size + 1)
      (fun j X => I j X ∧ w.heap.size + 2 ≤ X.heap.size ∧ X.heap[w.heap.size + 1]? = some (.loop (R .ready none)) ∧ X.heap[w.heap.size]? = some (.deferred (some [])))
      (fun _ X => Ix X ∧ X.heap[w.heap.size + 1]? = some (.loop (R .done (some .ret))) ∧ X.heap[w.heap.size]? = some (.deferred (some [])))
      W1 hbN ?aJ ?aX ?hY ⟨hI _ _ _ _ h0 hgN (fun r e => by cases e), by omega, hL1, hK1⟩).mono ?post
    case aJ =>
      rintro j X X' row ⟨hi, hs, hl, hk⟩ hgr hr
      have hne : ∀ k, k < w.heap.size + 2 → some k ≠ row := fun k hk2 e => by have := (hr k e.symm).1; omega
      exact ⟨hI _ _ _ _ hi hgr (fun r e => by have := (hr r e).1; omega), Nat.le_trans hs hgr.size, (hgr.block _ (by omega) (hne _ (by omega))).trans hl, (hgr.block _ (by omega) (hne _ (by omega))).trans hk⟩
    case aX =>
      rintro j X X' row ⟨hi, hl, hk⟩ hgr hr
      have hlt : w.heap.size + 1 < X.heap.size := (Array.getElem?_eq_some_iff.1 hl).1
      have hne : ∀ k, k < w.heap.size + 2 → some k ≠ row := fun k hk2 e => by have := (hr k e.symm).1; omega
      exact ⟨hIx _ _ _ hi hgr (fun r e => by have := (hr r e).1; omega), (hgr.block _ (by omega) (hne _ (by omega))).trans hl, (hgr.block _ (by omega) (hne _ (by omega))).trans hk⟩
    case hY =>
      rintro j hj m X ⟨hi, hs, hl, hk⟩ _
      have hlt : w.heap.size + 1 < X.heap.size := (Array.getElem?_eq_some_iff.1 hl).1
      have hy := run_yield (P := Tryz.prog) (args := E[j]) hl (by show (E[j]).size = (R .ready none).params.size; rw [hR]; exact hE j hj)
      refine ⟨fn, _, assign, body, by rw [hR] at hy; exact hy, roundIn_of_wpIn hfn ?_⟩
      have hst : (R .ready none).state = .ready := by rw [hR]; rfl
      refine wpIn_mono (hround j hj m X hi hs) ?_
      rintro e a₁ w₁ h
      cases e with
      | normal =>
        obtain ⟨hbx, hb⟩ := h
        have hzx := hbx.size
        have hl := (hbx.block _ hlt).trans hl
        have hk := (hbx.block _ (by omega)).trans hk
        have hlt : w.heap.size + 1 < w₁.heap.size := by omega
        refine ⟨_, run_beginRound hl hst, ?_⟩
        obtain ⟨o2, ho2⟩ : ∃ o2, Obj.loop { R .ready none with state := .busy } = o2 := ⟨_, rfl⟩
        rw [ho2]
        have hp := grownBy_putObj' w₁ (w.heap.size + 1) o2
        have hl2 : (w₁.putObj (w.heap.size + 1) o2).heap[w.heap.size + 1]? = some o2 := World.putObj_heap_same hlt
        have hk2 : (w₁.putObj (w.heap.size + 1) o2).heap[w.heap.size]? = some (.deferred (some [])) := (World.putObj_heap_other (by omega)).trans hk
        have hkp : KeepsAt (fun k => ks k ∨ (W1.heap.size ≤ k ∧ k < w₁.heap.size)) w₁ (w₁.putObj (w.heap.size + 1) o2) := keepsAt_putObj _ _ _ (fun h => by rcases h with h | h; have := hks _ h; omega; omega)
        have hsz : w₁.heap.size ≤ (w₁.putObj (w.heap.size + 1) o2).heap.size := hp.size
        refine wpIn_mono (hb _ hp) ?_
        rintro e a3 W3 h3
        cases e with
        | normal =>
          obtain ⟨⟨kd, kl⟩, hkk, hz, hi3⟩ := h3
          have hl3 := kl.trans hl2
          rw [← ho2] at hl3
          have hlt3 : w.heap.size + 1 < W3.heap.size := (Array.getElem?_eq_some_iff.1 hl3).1
          have hd3 := kd.trans hk2
          have hend := run_endRound (P := Tryz.prog) none hl3
          obtain ⟨o4, ho4⟩ : ∃ o4, o4 = Obj.loop (R .ready none) := ⟨_, rfl⟩
          have hp3 := grownBy_putObj' W3 (w.heap.size + 1) o4
          refine ⟨_, _, hend, .inl ⟨rfl, ⟨?_, ?_, ?_, ?_⟩, ?_, ?_⟩⟩
          · exact hI _ _ _ _ hi3 (grownBy_putObj' W3 (w.heap.size + 1) _) (fun r e => by injection e; omega)
          · exact Nat.le_trans (by omega) (grownBy_putObj' W3 (w.heap.size + 1) _).size
          · rw [World.putObj_heap_same hlt3, hR]; rfl
          · exact (World.putObj_heap_other (by omega)).trans hd3
          · exact (KeepsAt.below hbx (fun k h => by rcases h with h | h; have := hks _ h; omega; omega)).trans (((hkp.trans (hkk.mono' (fun k h => by rcases h with h | h; exact .inl h; exact .inr (by omega)))).trans (keepsAt_putObj _ _ _ (fun h => by rcases h with h | h; have := hks _ h; omega; omega))).mono' (fun k h => by rcases h with h | h; exact .inl h; exact .inr (by omega)))
          · exact Nat.le_trans hzx (Nat.le_trans (Nat.le_trans hsz hz) (grownBy_putObj' W3 (w.heap.size + 1) _).size)
        | ret =>
          obtain ⟨⟨kd, kl⟩, hkk, hz, hi3⟩ := h3
          have hl3 := kl.trans hl2
          rw [← ho2] at hl3
          have hlt3 : w.heap.size + 1 < W3.heap.size := (Array.getElem?_eq_some_iff.1 hl3).1
          have hd3 := kd.trans hk2
          have hend := run_endRound (P := Tryz.prog) (some .ret) hl3
          refine ⟨_, _, hend, .inr ⟨rfl, ⟨?_, ?_, ?_⟩, ?_, ?_⟩⟩
          · exact hIx _ _ _ hi3 (grownBy_putObj' W3 (w.heap.size + 1) _) (fun r e => by injection e; omega)
          · rw [World.putObj_heap_same hlt3, hR]; rfl
          · exact (World.putObj_heap_other (by omega)).trans hd3
          · exact (KeepsAt.below hbx (fun k h => by rcases h with h | h; have := hks _ h; omega; omega)).trans (((hkp.trans (hkk.mono' (fun k h => by rcases h with h | h; exact .inl h; exact .inr (by omega)))).trans (keepsAt_putObj _ _ _ (fun h => by rcases h with h | h; have := hks _ h; omega; omega))).mono' (fun k h => by rcases h with h | h; exact .inl h; exact .inr (by omega)))
          · exact Nat.le_trans hzx (Nat.le_trans (Nat.le_trans hsz hz) (grownBy_putObj' W3 (w.heap.size + 1) _).size)
        | exit id => exact h3.elim
        | goto t => exact h3.elim
        | panic ch => exact h3.elim
        | outgrown => exact h3.elim
      | exit id => exact h.elim
      | goto t => exact h.elim
      | ret => exact h.elim
      | panic ch => exact h.elim
      | outgrown => exact h.elim
    case post =>
      rintro e W2 ⟨⟨v, rfl⟩, (⟨hi, hs, hl, hk⟩ | ⟨j, hi, hl, hk⟩)⟩
      · have hend := run_endLoop (P := Tryz.prog) hl (by rw [hR]; simp [jrec])
        have hpe : (R .ready none).pending = none := by rw [hR]; rfl
        rw [hpe] at hend
        have hlt : w.heap.size + 1 < W2.heap.size := (Array.getElem?_eq_some_iff.1 hl).1
        exact ⟨none, _, hend, hdone _ (hI _ _ _ _ hi (grownBy_putObj' W2 (w.heap.size + 1) _) (fun r e => by injection e; omega)) (Nat.le_trans hs (grownBy_putObj' W2 (w.heap.size + 1) _).size) ((World.putObj_heap_other (by omega)).trans hk)⟩
      · have hend := run_endLoop (P := Tryz.prog) hl (by rw [hR]; simp [jrec])
        have hpe : (R .done (some .ret)).pending = some .ret := by rw [hR]; rfl
        rw [hpe] at hend
        exact ⟨some .ret, _, hend, hstop _ (hIx _ _ _ hi (grownBy_putObj' W2 (w.heap.size + 1) _) (fun r e => by injection e; omega)) ((World.putObj_heap_other (by omega)).trans hk)⟩
end Go.Proofs.YtdnbnigebejgjaaGreatDoor
