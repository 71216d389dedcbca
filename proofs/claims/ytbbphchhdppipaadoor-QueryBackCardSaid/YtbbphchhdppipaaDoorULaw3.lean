/-
  The laws QueryBack and QueryAppends return true for every input.
-/
import Derived.Test.YtbbphchhdppipaaDoorULaw0
import Derived.Test.YtbbphchhdppipaaDoorUPure3
import Derived.BigFrame
import Derived.Laws.AppendOwnNone
namespace Go.Proofs.YtbbphchhdppipaaDoor
open Go.RowKit
theorem wpList_append_ownG {P : Program} {w : World} {ops : Array Oper} {rest : List Oper} {o : Oper} {a : Act} {Q : Exit → Act → World → Prop} (hgd : Region.wanted o (yielded ops a.tmps) = true) (s x : Operand) (t : TypeId)
    (ho : o.op = .call { callee := .builtin .append, args := #[s, x], argTypes := #[t, t] })
    (base : Nat) (e : TypeId) (i : TypeInfo) (z : Value) (size bytes : Nat) (ht : P.underlying t = some (.slice e)) (hi : P.info? e = some i) (hz : i.zero = some z)
    (hsize : i.size = size) (hby : i.bytes = bytes) (hzs : z.cells.size = size) (hsz : 0 < size)
    (v : Value) (n : Nat) (xs : List Value) (hs : a.eval s = v) (hown : w.ownsRow base e size v n xs)
    (ad : Addr) (m c : Nat) (news : List Value) (hx : a.eval x = .slice (some ad) m c) (hl : news.length = m * size) (hnews : ∀ j u, news[j]? = some u → w.cell? (ad.add j) = some u) (h1 : ∀ u ∈ news, u.oneCell' = true)
    (h63 : n + m ≤ maxLen) (hbytes : (n + m) * bytes ≤ 140737488355328) (hbase : base ≤ w.heap.size)
    (h : ∀ v' w', w'.ownsRow base e size v' (n + m) (xs ++ news) → w.grownBy w' v.ownBlock → wpList P ops Q rest (a.put o.dst v') w') : wpList P ops Q (o :: rest) a w :=
  BigFrame.wpList_want hgd fun _ hK => wp_append_own w s x t ho base e i z size bytes ht hi hz hsize hby hzs hsz v n xs hs hown ad m c news hx hl hnews h1 h63 hbytes hbase fun v' w' h2 h3 _ => hK _ _ (h v' w' h2 h3)
theorem wpList_append_own_noneG {P : Program} {w : World} {ops : Array Oper} {rest : List Oper} {o : Oper} {a : Act} {Q : Exit → Act → World → Prop} (hgd : Region.wanted o (yielded ops a.tmps) = true) (s x : Operand) (t : TypeId)
    (ho : o.op = .call { callee := .builtin .append, args := #[s, x], argTypes := #[t, t] })
    (base : Nat) (e : TypeId) (i : TypeInfo) (size : Nat) (ht : P.underlying t = some (.slice e)) (hi : P.info? e = some i)
    (v : Value) (n : Nat) (xs : List Value) (hs : a.eval s = v) (hown : w.ownsRow base e size v n xs) (hx : a.eval x = .slice none 0 0)
    (h : wpList P ops Q rest (a.put o.dst v) w) : wpList P ops Q (o :: rest) a w := by
  refine BigFrame.wpList_want hgd fun K hK => ?_
  have hrun := run_append_owned_none (P := P) (w := w) base t o.type e i size ht hi v n xs hown
  unfold Oper.wp
  simp [execOp, ho, resolve, invoke, builtin, hs, hx, hrun, Result.andThen]
  exact hK _ _ h
theorem join_err {L : List Pr} {e : Nat} (h : joinR L = .inl e) : e ≠ 0 := by
  unfold joinR at h
  split at h
  · injection h with h; omega
  · split at h
    · injection h with h; omega
    · cases h
theorem join_len {L : List Pr} {s : List UInt8} (h : joinR L = .inr s) : s.length ≤ 128 := by
  unfold joinR at h
  split at h
  · cases h
  · split at h
    · cases h
    · injection h with h
      subst h
      omega
theorem can_err {q : List UInt8} {e : Nat} (h : canR q = .inl e) : e ≠ 0 := by
  unfold canR at h
  cases hd : decR q with
  | inl x =>
    rw [hd] at h
    injection h with h
    rw [← h]
    exact dec_err hd
  | inr L =>
    rw [hd] at h
    exact join_err h
theorem can_len {q c : List UInt8} (h : canR q = .inr c) : c.length ≤ 128 := by
  unfold canR at h
  cases hd : decR q with
  | inl x => rw [hd] at h; cases h
  | inr L =>
    rw [hd] at h
    exact join_len h
theorem app_err {q m : List UInt8} {e : Nat} (h : appR q m = .inl e) : e ≠ 0 := by
  unfold appR at h
  split at h
  · split at h
    · split at h
      · cases h
      · split at h
        · injection h with h; omega
        · cases h
    · injection h with h; omega
  · injection h with h; omega
set_option maxRecDepth 100000 in
set_option maxHeartbeats 16000000 in
theorem back_law (L : List Pr) (_ : L.length ≤ 9223372036854775807) (p : Option Addr) (c : Nat) (hp : p = none → c = 0) (q : List UInt8) (w : World) (hC : PrsIn w p L) :
    Calls Tryd.prog 8 #[.slice p L.length c, .string ⟨q.toArray⟩] w fun e w' => e = .returned (.bool true) ∧ Below w.heap.size w w' := by
  have hcase : 20 < L.length ∨ (¬ 20 < L.length ∧ 128 < q.length) ∨ (¬ 20 < L.length ∧ ¬ 128 < q.length) := by omega
  rcases hcase with h1 | ⟨h1, h2⟩ | ⟨h1, h2⟩
  · have d1 : decide ((20 : Int) < (L.length : Int)) = true := decide_eq_true (by omega)
    clear h1
    go_enter Tryd.func8, Tryd.ntmps8
    go_wp2_with fail
    refine (awake_any _).mono ?_
    rintro e w1 ⟨rfl, hb⟩
    go_wp2_with fail
    go_ret
    exact ⟨rfl, hb⟩
  · have d1 : decide ((20 : Int) < (L.length : Int)) = false := decide_eq_false (by omega)
    have d2 : decide ((128 : Int) < (q.length : Int)) = true := decide_eq_true (by omega)
    clear h1 h2
    go_enter Tryd.func8, Tryd.ntmps8
    go_wp2_with fail
    refine (awake_any _).mono ?_
    rintro e w1 ⟨rfl, hb⟩
    go_wp2_with fail
    go_ret
    exact ⟨rfl, hb⟩
  · have d1 : decide ((20 : Int) < (L.length : Int)) = false := decide_eq_false (by omega)
    have d2 : decide ((128 : Int) < (q.length : Int)) = false := decide_eq_false (by omega)
    have hLs : L.length < 1000 := by omega
    have hqs : q.length < 1000 := by omega
    have HC := Lib.hid hC
    have HPN := Lib.hid hp
    clear hC h1 h2 hp
    go_enter Tryd.func8, Tryd.ntmps8
    go_wp2_with fail
    go_loopw [5] (fun i wr => ∃ k : Nat, k ≤ L.length ∧ i = .int .i64 k ∧ Hid (∀ x ∈ L.take k, x.nm.length < 1000 ∧ x.vl.length < 1000) ∧ wr = w) (fun i _ => L.length - (intOf i).toNat)
    case atStart => exact ⟨0, by omega, rfl, Lib.hid (by simp), rfl⟩
    case round =>
    obtain ⟨k, hk, rfl, hsm, rfl⟩ := hrel
    by_cases hlt : k < L.length
    · have d4 : decide ((k : Int) < (L.length : Int)) = true := decide_eq_true (by omega)
      have hb2 : (k : Int) < (L.length : Int) := by omega
      obtain ⟨b, off, rfl, hbl, x0, x1, x2⟩ := pr_cells HC.out (Below.refl _ _) hlt
      have hnext : (L[k]).nm.length < 1000 ∧ (L[k]).vl.length < 1000 → ∀ x ∈ L.take (k + 1), x.nm.length < 1000 ∧ x.vl.length < 1000 := fun h x hx => by
        rw [List.take_succ_eq_append_getElem hlt] at hx
        rcases List.mem_append.1 hx with hx | hx
        · exact hsm.out x hx
        · rw [List.mem_singleton.1 hx]
          exact h
      obtain ⟨P, hP⟩ : ∃ P, L[k] = P := ⟨_, rfl⟩
      rw [hP] at x0 x1 x2 hnext
      clear hP
      obtain ⟨nm, vl, br⟩ := P
      dsimp only at x0 x1 x2 hnext
      by_cases e1 : 30 < nm.length
      · have d5 : decide ((30 : Int) < (nm.length : Int)) = true := decide_eq_true (by omega)
        clear e1 hnext hsm
        go_wp2_with fail
        refine (awake_any _).mono ?_
        rintro e w1 ⟨rfl, hb⟩
        go_wp2_with fail
        go_ret
        exact ⟨rfl, hb⟩
      · have d5 : decide ((30 : Int) < (nm.length : Int)) = false := decide_eq_false (by omega)
        by_cases e2 : 30 < vl.length
        · have d6 : decide ((30 : Int) < (vl.length : Int)) = true := decide_eq_true (by omega)
          clear e1 e2 hnext hsm
          go_wp2_with fail
          refine (awake_any _).mono ?_
          rintro e w1 ⟨rfl, hb⟩
          go_wp2_with fail
          go_ret
          exact ⟨rfl, hb⟩
        · have d6 : decide ((30 : Int) < (vl.length : Int)) = false := decide_eq_false (by omega)
          have hnext := Lib.hid (hnext ⟨by omega, by omega⟩)
          clear e1 e2 hsm
          go_wp2_with fail
          go_roundw
          case rel => exact ⟨k + 1, by omega, by go_num, hnext, trivial⟩
          case measure => simp [intOf]; omega
    · have d4 : decide ((k : Int) < (L.length : Int)) = false := decide_eq_false (by omega)
      have hall : ∀ x ∈ L, x.nm.length < 1000 ∧ x.vl.length < 1000 := by
        have := hsm.out
        rwa [List.take_of_length_le (by omega)] at this
      have HO : Hid (∀ W, PrsIn W p L → Calls Tryd.prog 28 #[.slice p L.length c] W fun e w' => ∃ u, e = .returned u ∧ w'.ownsRow W.heap.size 40 3 u L.length (prsC L) ∧ Below W.heap.size W w') := Lib.hid fun W h => own_any L (by omega) p c HPN.out W h
      have HJA : Hid (∀ p c W, PrsIn W p L → Calls Tryd.prog 29 #[.slice p L.length c] W fun e w' => e = .returned (strR (joinR L)) ∧ Below W.heap.size W w') := Lib.hid fun p c W h => join_any L hLs hall p c W h
      have hjb := fun s => join_back (L := L) (s := s)
      have hjl := fun s => join_len (L := L) (s := s)
      have hje := fun e => join_err (L := L) (e := e)
      obtain ⟨J, hJ⟩ : ∃ R, joinR L = R := ⟨_, rfl⟩
      rw [hJ] at HJA hjb hjl hje
      have HKA : Hid (∀ W, Calls Tryd.prog 26 #[.string ⟨q.toArray⟩] W fun e w' => e = .returned (strR (canR q)) ∧ Below W.heap.size W w') := Lib.hid fun W => can_any q (by omega) W
      have hkb := fun cc => can_back (q := q) (c := cc)
      have hkl := fun cc => can_len (q := q) (c := cc)
      have hke := fun e => can_err (q := q) (e := e)
      have HD1 : Hid (∀ W, Calls Tryd.prog 22 #[.string ⟨q.toArray⟩] W fun e w' => PrsPost W.heap.size (decR q) e w' ∧ Below W.heap.size W w') := Lib.hid fun W => decoded_any q (by omega) W
      obtain ⟨K, hK⟩ : ∃ R, canR q = R := ⟨_, rfl⟩
      rw [hK] at HKA hkb hkl hke
      have HKE : Hid (∀ ke, K = .inl ke → ke ≠ 0) := Lib.hid fun ke h => hke ke h
      have HKB : Hid (∀ cc, K = .inr cc → ∃ M : List Pr, Hid (lstP (decR q) = M ∧ errP (decR q) = 0) ∧ M.length < 1000000 ∧ Hid (∀ W, Calls Tryd.prog 26 #[.string ⟨cc.toArray⟩] W fun e w' => e = .returned (.tuple #[.string ⟨cc.toArray⟩, .int .i64 0]) ∧ Below W.heap.size W w') ∧ Hid (∀ W, Calls Tryd.prog 22 #[.string ⟨cc.toArray⟩] W fun e w' => PrsPost W.heap.size (decR q) e w' ∧ Below W.heap.size W w')) := Lib.hid fun cc h => by
        obtain ⟨b1, b2, M, b3⟩ := hkb cc h
        have bl := hkl cc h
        refine ⟨M, Lib.hid ⟨by rw [b3]; rfl, by rw [b3]; rfl⟩, ?_, Lib.hid fun W => ?_, Lib.hid fun W => ?_⟩
        · have := (dec_small b3).1
          omega
        · have h := can_any cc (by omega) W
          rw [b1] at h
          exact h
        · have h := decoded_any cc (by omega) W
          rw [b2] at h
          exact h
      clear hsm hall hJ hkb hkl hke hK
      cases J with
      | inl JE =>
        have HJ1 : Hid (∀ p c W, PrsIn W p L → Calls Tryd.prog 29 #[.slice p L.length c] W fun e w' => e = .returned (.tuple #[.string ⟨#[]⟩, .int .i64 (JE : Nat)]) ∧ Below W.heap.size W w') := HJA
        have HJE : Hid (JE ≠ 0) := Lib.hid (hje JE rfl)
        clear HJA hjb hjl hje
        have e9 : ((JE : Int) == 0) = false := by rw [beq_eq_false_iff_ne]; have := HJE.out; omega
        go_wp2_with fail
        refine (HO.out _ HC.out).mono ?_
        rintro e w1 ⟨u, rfl, hrow, hB1⟩
        obtain ⟨p1, c1, rfl, -, hpr⟩ := prs_of_own hrow
        have A1 := Lib.hid hpr
        clear hrow hpr
        go_wp2_with fail
        refine (HJ1.out _ _ _ A1.out).mono ?_
        rintro e w2 ⟨rfl, hb2⟩
        have hB2 := hB1.trans (hb2.mono hB1.size)
        clear hB1 hb2
        go_wp2_with fail
        cases K with
        | inl ke =>
          have HK1 : Hid (∀ W, Calls Tryd.prog 26 #[.string ⟨q.toArray⟩] W fun e w' => e = .returned (.tuple #[.string ⟨#[]⟩, .int .i64 (ke : Nat)]) ∧ Below W.heap.size W w') := HKA
          have e8 : ((ke : Int) != 0) = true := by rw [bne_iff_ne]; have := HKE.out ke rfl; omega
          refine (HK1.out _).mono ?_
          rintro e w5 ⟨rfl, hb5⟩
          have hB5 := hB2.trans (hb5.mono hB2.size)
          clear hb5
          go_wp2_with fail
          refine (awake_any _).mono ?_
          rintro e wA ⟨rfl, hbA⟩
          go_wp2_with fail
          go_ret
          exact ⟨rfl, hB5.trans (hbA.mono hB5.size)⟩
        | inr cc =>
          have HK1 : Hid (∀ W, Calls Tryd.prog 26 #[.string ⟨q.toArray⟩] W fun e w' => e = .returned (.tuple #[.string ⟨cc.toArray⟩, .int .i64 0]) ∧ Below W.heap.size W w') := HKA
          obtain ⟨M, HM, hMs, HK2, HD2⟩ := HKB.out cc rfl
          refine (HK1.out _).mono ?_
          rintro e w5 ⟨rfl, hb5⟩
          have hB5 := hB2.trans (hb5.mono hB2.size)
          clear hb5
          go_wp2_with fail
          refine (HK2.out _).mono ?_
          rintro e w6 ⟨rfl, hb6⟩
          have hB6 := hB5.trans (hb6.mono hB5.size)
          clear hb6 hB5
          go_wp2_with fail
          refine (HD1.out _).mono ?_
          rintro e w7 ⟨hpost, hb7⟩
          obtain ⟨p7, c7, rfl, a7⟩ := prs_res hpost
          rw [HM.out.1, HM.out.2]
          rw [HM.out.1] at a7
          have A7 := Lib.hid a7
          have hB7 := hB6.trans (hb7.mono hB6.size)
          clear hb7 hB6 hpost a7
          go_wp2_with fail
          refine (HD2.out _).mono ?_
          rintro e w8 ⟨hpost, hb8⟩
          obtain ⟨p8, c8, rfl, a8⟩ := prs_res hpost
          rw [HM.out.1, HM.out.2]
          rw [HM.out.1] at a8
          have A8 := Lib.hid a8
          have A7b := Lib.hid (A7.out.below hb8 (Nat.le_refl _))
          have hB8 := hB7.trans (hb8.mono hB7.size)
          clear hb8 hB7 hpost a8
          go_wp2_with fail
          refine (same_any M hMs _ _ _ A7b.out A8.out).mono ?_
          rintro e w9 ⟨rfl, hb9⟩
          have hB9 := hB8.trans (hb9.mono hB8.size)
          clear hb9 hB8
          go_wp2_with fail
          refine (awake_any _).mono ?_
          rintro e wA ⟨rfl, hbA⟩
          go_wp2_with fail
          go_ret
          exact ⟨rfl, hB9.trans (hbA.mono hB9.size)⟩
      | inr js =>
        have HJ1 : Hid (∀ p c W, PrsIn W p L → Calls Tryd.prog 29 #[.slice p L.length c] W fun e w' => e = .returned (.tuple #[.string ⟨js.toArray⟩, .int .i64 0]) ∧ Below W.heap.size W w') := HJA
        have HDJ : Hid (∀ W, Calls Tryd.prog 22 #[.string ⟨js.toArray⟩] W fun e w' => PrsPost W.heap.size (.inr L) e w' ∧ Below W.heap.size W w') := Lib.hid fun W => by
          have hl := hjl js rfl
          have h := decoded_any js (by omega) W
          rw [hjb js rfl] at h
          exact h
        clear HJA hjb hjl hje
        go_wp2_with fail
        refine (HO.out _ HC.out).mono ?_
        rintro e w1 ⟨u, rfl, hrow, hB1⟩
        obtain ⟨p1, c1, rfl, -, hpr⟩ := prs_of_own hrow
        have A1 := Lib.hid hpr
        clear hrow hpr
        go_wp2_with fail
        refine (HJ1.out _ _ _ A1.out).mono ?_
        rintro e w2 ⟨rfl, hb2⟩
        have hB2 := hB1.trans (hb2.mono hB1.size)
        clear hB1 hb2
        go_wp2_with fail
        refine (HDJ.out _).mono ?_
        rintro e w3 ⟨hpost, hb3⟩
        obtain ⟨p3, c3, rfl, a3⟩ := prs_res hpost
        have a3 : PrsAt w3 (.slice p3 L.length c3) L := a3
        have A3 := Lib.hid a3
        have hB3 := hB2.trans (hb3.mono hB2.size)
        have C3 : Hid (PrsAt w3 (.slice p L.length c) L) := Lib.hid ⟨p, c, rfl, HPN.out, HC.out.below hB3 (Nat.le_refl _)⟩
        clear hb3 hB2 hpost a3
        go_wp2_with fail
        refine (same_any L (by omega) _ _ _ A3.out C3.out).mono ?_
        rintro e w4 ⟨rfl, hb4⟩
        have hB4 := hB3.trans (hb4.mono hB3.size)
        clear hb4 hB3
        go_wp2_with fail
        cases K with
        | inl ke =>
          have HK1 : Hid (∀ W, Calls Tryd.prog 26 #[.string ⟨q.toArray⟩] W fun e w' => e = .returned (.tuple #[.string ⟨#[]⟩, .int .i64 (ke : Nat)]) ∧ Below W.heap.size W w') := HKA
          have e8 : ((ke : Int) != 0) = true := by rw [bne_iff_ne]; have := HKE.out ke rfl; omega
          refine (HK1.out _).mono ?_
          rintro e w5 ⟨rfl, hb5⟩
          have hB5 := hB4.trans (hb5.mono hB4.size)
          clear hb5
          go_wp2_with fail
          refine (awake_any _).mono ?_
          rintro e wA ⟨rfl, hbA⟩
          go_wp2_with fail
          go_ret
          exact ⟨rfl, hB5.trans (hbA.mono hB5.size)⟩
        | inr cc =>
          have HK1 : Hid (∀ W, Calls Tryd.prog 26 #[.string ⟨q.toArray⟩] W fun e w' => e = .returned (.tuple #[.string ⟨cc.toArray⟩, .int .i64 0]) ∧ Below W.heap.size W w') := HKA
          obtain ⟨M, HM, hMs, HK2, HD2⟩ := HKB.out cc rfl
          refine (HK1.out _).mono ?_
          rintro e w5 ⟨rfl, hb5⟩
          have hB5 := hB4.trans (hb5.mono hB4.size)
          clear hb5
          go_wp2_with fail
          refine (HK2.out _).mono ?_
          rintro e w6 ⟨rfl, hb6⟩
          have hB6 := hB5.trans (hb6.mono hB5.size)
          clear hb6 hB5
          go_wp2_with fail
          refine (HD1.out _).mono ?_
          rintro e w7 ⟨hpost, hb7⟩
          obtain ⟨p7, c7, rfl, a7⟩ := prs_res hpost
          rw [HM.out.1, HM.out.2]
          rw [HM.out.1] at a7
          have A7 := Lib.hid a7
          have hB7 := hB6.trans (hb7.mono hB6.size)
          clear hb7 hB6 hpost a7
          go_wp2_with fail
          refine (HD2.out _).mono ?_
          rintro e w8 ⟨hpost, hb8⟩
          obtain ⟨p8, c8, rfl, a8⟩ := prs_res hpost
          rw [HM.out.1, HM.out.2]
          rw [HM.out.1] at a8
          have A8 := Lib.hid a8
          have A7b := Lib.hid (A7.out.below hb8 (Nat.le_refl _))
          have hB8 := hB7.trans (hb8.mono hB7.size)
          clear hb8 hB7 hpost a8
          go_wp2_with fail
          refine (same_any M hMs _ _ _ A7b.out A8.out).mono ?_
          rintro e w9 ⟨rfl, hb9⟩
          have hB9 := hB8.trans (hb9.mono hB8.size)
          clear hb9 hB8
          go_wp2_with fail
          refine (awake_any _).mono ?_
          rintro e wA ⟨rfl, hbA⟩
          go_wp2_with fail
          go_ret
          exact ⟨rfl, hB9.trans (hbA.mono hB9.size)⟩
set_option maxRecDepth 100000 in
set_option maxHeartbeats 16000000 in
theorem appends_law (q m : List UInt8) (w : World) :
    Calls Tryd.prog 9 #[.string ⟨q.toArray⟩, .string ⟨m.toArray⟩] w fun e w' => e = .returned (.bool true) ∧ Below w.heap.size w w' := by
  have hcase : 128 < q.length ∨ (¬ 128 < q.length ∧ 128 < m.length) ∨ (¬ 128 < q.length ∧ ¬ 128 < m.length) := by omega
  rcases hcase with h1 | ⟨h1, h2⟩ | ⟨h1, h2⟩
  · have d1 : decide ((128 : Int) < (q.length : Int)) = true := decide_eq_true (by omega)
    clear h1
    go_enter Tryd.func9, Tryd.ntmps9
    go_wp2_with fail
    refine (awake_any _).mono ?_
    rintro e w1 ⟨rfl, hb⟩
    go_wp2_with fail
    go_ret
    exact ⟨rfl, hb⟩
  · have d1 : decide ((128 : Int) < (q.length : Int)) = false := decide_eq_false (by omega)
    have d2 : decide ((128 : Int) < (m.length : Int)) = true := decide_eq_true (by omega)
    clear h1 h2
    go_enter Tryd.func9, Tryd.ntmps9
    go_wp2_with fail
    refine (awake_any _).mono ?_
    rintro e w1 ⟨rfl, hb⟩
    go_wp2_with fail
    go_ret
    exact ⟨rfl, hb⟩
  · have d1 : decide ((128 : Int) < (q.length : Int)) = false := decide_eq_false (by omega)
    have d2 : decide ((128 : Int) < (m.length : Int)) = false := decide_eq_false (by omega)
    have HAA : Hid (∀ W, Calls Tryd.prog 31 #[.string ⟨q.toArray⟩, .string ⟨m.toArray⟩] W fun e w' => e = .returned (strR (appR q m)) ∧ Below W.heap.size W w') := Lib.hid fun W => append_any q m (by omega) (by omega) W
    have hap := fun s => app_pairs (q := q) (m := m) (s := s)
    have hae := fun e => app_err (q := q) (m := m) (e := e)
    obtain ⟨R, hR⟩ : ∃ R, appR q m = R := ⟨_, rfl⟩
    rw [hR] at HAA hap hae
    clear hR
    cases R with
    | inl ae =>
      have HA1 : Hid (∀ W, Calls Tryd.prog 31 #[.string ⟨q.toArray⟩, .string ⟨m.toArray⟩] W fun e w' => e = .returned (.tuple #[.string ⟨#[]⟩, .int .i64 (ae : Nat)]) ∧ Below W.heap.size W w') := HAA
      have e0 : ((ae : Int) != 0) = true := by rw [bne_iff_ne]; have := hae ae rfl; omega
      clear HAA hap hae h1 h2
      go_enter Tryd.func9, Tryd.ntmps9
      go_wp2_with fail
      refine (HA1.out _).mono ?_
      rintro e w1 ⟨rfl, hB1⟩
      go_wp2_with fail
      refine (awake_any _).mono ?_
      rintro e w2 ⟨rfl, hb⟩
      go_wp2_with fail
      go_ret
      exact ⟨rfl, hB1.trans (hb.mono hB1.size)⟩
    | inr s =>
      have HA1 : Hid (∀ W, Calls Tryd.prog 31 #[.string ⟨q.toArray⟩, .string ⟨m.toArray⟩] W fun e w' => e = .returned (.tuple #[.string ⟨s.toArray⟩, .int .i64 0]) ∧ Below W.heap.size W w') := HAA
      obtain ⟨r1, r2, r3, hsl⟩ := hap s rfl
      have hpq := pairs_len q
      have hpm := pairs_len m
      have HP1 : Hid (∀ W, Calls Tryd.prog 19 #[.string ⟨q.toArray⟩] W fun e w' => PrsPost W.heap.size (.inr (pairsL q)) e w' ∧ Below W.heap.size W w') := Lib.hid fun W => by
        have h := pairs_any q (by omega) W
        rwa [r1] at h
      have HP2 : Hid (∀ W, Calls Tryd.prog 19 #[.string ⟨m.toArray⟩] W fun e w' => PrsPost W.heap.size (.inr (pairsL m)) e w' ∧ Below W.heap.size W w') := Lib.hid fun W => by
        have h := pairs_any m (by omega) W
        rwa [r2] at h
      have HP3 : Hid (∀ W, Calls Tryd.prog 19 #[.string ⟨s.toArray⟩] W fun e w' => PrsPost W.heap.size (.inr (pairsL m ++ pairsL q)) e w' ∧ Below W.heap.size W w') := Lib.hid fun W => by
        have h := pairs_any s (by omega) W
        rwa [r3] at h
      obtain ⟨A, hA⟩ : ∃ L, pairsL q = L := ⟨_, rfl⟩
      obtain ⟨B, hBe⟩ : ∃ L, pairsL m = L := ⟨_, rfl⟩
      rw [hA] at HP1 HP3 hpq
      rw [hBe] at HP2 HP3 hpm
      obtain ⟨S, hS⟩ : ∃ L, B ++ A = L := ⟨_, rfl⟩
      rw [hS] at HP3
      have hSl : S.length < 1000000 := by rw [← hS, List.length_append]; omega
      have hAl : A.length < 1000 := by omega
      have hBl : B.length < 1000 := by omega
      have HS := Lib.hid hS
      have d3 : decide ((s.length : Int) ≤ 128) = true := decide_eq_true (by omega)
      have HO : Hid (∀ p c W, (p = none → c = 0) → PrsIn W p B → Calls Tryd.prog 28 #[.slice p B.length c] W fun e w' => ∃ u, e = .returned u ∧ w'.ownsRow W.heap.size 40 3 u B.length (prsC B) ∧ Below W.heap.size W w') := Lib.hid fun p c W h0 h => own_any B (by omega) p c h0 W h
      have HSM : Hid (∀ v1 v2 W, PrsAt W v1 S → PrsAt W v2 S → Calls Tryd.prog 21 #[v1, v2] W fun e w' => e = .returned (.bool true) ∧ Below W.heap.size W w') := Lib.hid fun v1 v2 W g1 g2 => same_any S (by omega) v1 v2 W g1 g2
      obtain ⟨i0, hi, hz0, hz1, hz2⟩ := info_parts infoPr
      have z1 : (Value.agg #[.string ⟨#[]⟩, .string ⟨#[]⟩, .bool false]).cells.size = 3 := by rfl
      have honA := prsC_one A
      have hlnA := prsC_length A
      clear HAA hap hae h1 h2 r1 r2 r3 hsl hpq hpm hA hBe hS
      go_enter Tryd.func9, Tryd.ntmps9
      go_wp2_with fail
      refine (HA1.out _).mono ?_
      rintro e w1 ⟨rfl, hB1⟩
      go_wp2_with fail
      refine (HP1.out _).mono ?_
      rintro e w2 ⟨⟨v2, rfl, hrow2⟩, hb2⟩
      obtain ⟨p2, c2, rfl, hn2, hpr2⟩ := prs_of_own hrow2
      have A2 := Lib.hid hpr2
      have hB2 := hB1.trans (hb2.mono hB1.size)
      clear hrow2 hpr2 hb2 hB1
      go_wp2_with fail
      refine (HP2.out _).mono ?_
      rintro e w3 ⟨⟨v3, rfl, hrow3⟩, hb3⟩
      obtain ⟨p3, c3, rfl, hn3, hpr3⟩ := prs_of_own hrow3
      have B3 := Lib.hid hpr3
      have A3 := Lib.hid (A2.out.below hb3 (Nat.le_refl _))
      have hB3 := hB2.trans (hb3.mono hB2.size)
      clear hrow3 hpr3 hb3 hB2
      go_wp2_with fail
      refine (HP3.out _).mono ?_
      rintro e w4 ⟨⟨v4, rfl, hrow4⟩, hb4⟩
      obtain ⟨p4, c4, rfl, hn4, hpr4⟩ := prs_of_own hrow4
      have S4 : Hid (PrsAt w4 (.slice p4 S.length c4) S) := Lib.hid ⟨p4, c4, rfl, hn4, hpr4⟩
      have A4 := Lib.hid (A3.out.below hb4 (Nat.le_refl _))
      have B4 := Lib.hid (B3.out.below hb4 (Nat.le_refl _))
      have hB4 := hB3.trans (hb4.mono hB3.size)
      have HN3 := Lib.hid hn3
      have HN2 := Lib.hid hn2
      clear hrow4 hpr4 hb4 hB3 hn4 hn3 hn2
      go_wp2_with fail
      refine (HO.out _ _ _ HN3.out B4.out).mono ?_
      rintro e w5 ⟨u, rfl, hrow5, hb5⟩
      have S5 := Lib.hid (S4.out.below hb5 (Nat.le_refl _))
      have A5 := Lib.hid (A4.out.below hb5 (Nat.le_refl _))
      have hB5 := hB4.trans (hb5.mono hB4.size)
      have hbs := hb5.size
      obtain ⟨u5, cu5, rfl⟩ := own_slice hrow5
      cases p2 with
      | none =>
        obtain rfl := HN2.out rfl
        have hAn : A = [] := by
          cases A with
          | nil => rfl
          | cons x r =>
            obtain ⟨b, off, e, _⟩ := A5.out 0 (by simp)
            cases e
        have R5 : Hid (PrsAt w5 (.slice u5 B.length cu5) S) := Lib.hid (by
          have := prs_of_own hrow5
          rw [← HS.out, hAn, List.append_nil]
          exact this)
        subst hAn
        go_wp2_with (at_builtin; refine wpList_append_own_noneG rfl _ _ 31 rfl _ 40 i0 3 Tryd.underlying31 hi _ _ _ rfl hrow5 rfl ?_)
        refine (HSM.out _ _ _ S5.out R5.out).mono ?_
        rintro e w7 ⟨rfl, hb7⟩
        have hB7 := hB5.trans (hb7.mono hB5.size)
        go_wp2_with fail
        refine (awake_any _).mono ?_
        rintro e w8 ⟨rfl, hb⟩
        go_wp2_with fail
        go_ret
        exact ⟨rfl, hB7.trans (hb.mono hB7.size)⟩
      | some ad =>
        have hnews := pnews_of A5.out (Below.refl _ _)
        go_wp2_with (at_builtin; refine wpList_append_ownG rfl _ _ 31 rfl w4.heap.size 40 i0 (.agg #[.string ⟨#[]⟩, .string ⟨#[]⟩, .bool false]) 3 40 Tryd.underlying31 hi hz0 hz1 hz2 z1 (by decide) _ _ _ rfl hrow5 ad A.length c2 (prsC A) rfl hlnA hnews honA (by unfold maxLen; omega) (by omega) hbs ?_; intro v' w6 hown' hgrow; have hBx := below_grownR hb5 hb5.size hgrow (fun r hr => (hrow5.lt r hr).1); have hB6 := hB4.trans (hBx.mono hB4.size); have R6 : Hid (PrsAt w6 v' S) := Lib.hid (by have h := hown'; rw [← prsC_append, ← List.length_append, HS.out] at h; exact prs_of_own h); have S6 : Hid (PrsAt w6 (.slice p4 S.length c4) S) := Lib.hid (S4.out.below hBx (Nat.le_refl _)))
        refine (HSM.out _ _ _ S6.out R6.out).mono ?_
        rintro e w7 ⟨rfl, hb7⟩
        have hB7 := hB6.trans (hb7.mono hB6.size)
        go_wp2_with fail
        refine (awake_any _).mono ?_
        rintro e w8 ⟨rfl, hb⟩
        go_wp2_with fail
        go_ret
        exact ⟨rfl, hB7.trans (hb.mono hB7.size)⟩
end Go.Proofs.YtbbphchhdppipaaDoor
