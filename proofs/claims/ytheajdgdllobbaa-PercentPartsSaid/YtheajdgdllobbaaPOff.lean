/-
  The reference's Escapes and Offset for every text and number.
-/
import Derived.Test.YtheajdgdllobbaaPCut
namespace Go.Proofs.Ytheajdgdllobbaa
open Go.RowKit
attribute [local go_sem] ba_get
/-- Where the byte number k of what a text says begins. -/
def offF (l : List UInt8) : Nat → Nat
  | 0 => 0
  | k + 1 => offF l k + stepB (l.drop (offF l k))
theorem offF_at {l t : List UInt8} (h : decL l 0 = .ok t) : ∀ k, k ≤ t.length → offF l k ≤ l.length ∧ decL (l.drop (offF l k)) (offF l k) = .ok (t.drop k)
  | 0, _ => ⟨Nat.zero_le _, h⟩
  | k + 1, hk => by
    obtain ⟨h1, h2⟩ := offF_at h k (by omega)
    have hlt : offF l k < l.length := by
      apply Classical.byContradiction
      intro hn
      rw [List.drop_eq_nil_of_le (by omega), decL_nil] at h2
      injection h2 with h2
      have := congrArg List.length h2
      rw [List.length_drop] at this
      simp at this
      omega
    show offF l k + stepB (l.drop (offF l k)) ≤ l.length ∧ _
    obtain ⟨p1, p2, p3⟩ := stepB_le hlt
    refine ⟨p3, ?_⟩
    show decL (l.drop (offF l k + stepB (l.drop (offF l k)))) (offF l k + stepB (l.drop (offF l k))) = _
    generalize offF l k = i at h2 hlt p3 ⊢
    have ht : t.drop k = t[k] :: t.drop (k + 1) := List.drop_eq_getElem_cons (by omega)
    cases he : escB (l.drop i)
    · have hs : stepB (l.drop i) = 1 := by unfold stepB; rw [he]; rfl
      rw [hs]
      have hd := List.drop_eq_getElem_cons hlt
      rw [hd] at h2 he
      by_cases hc : l[i] = 37
      · rw [hc] at he h2
        rw [decL_bad i he] at h2
        cases h2
      · rw [decL_plain i hc, ht] at h2
        cases hx : decL (l.drop (i + 1)) (i + 1) with
        | error e => rw [hx] at h2; cases h2
        | ok t' =>
          rw [hx] at h2
          injection h2 with h2
          injection h2 with e1 e2
          rw [e2]
    · have hs : stepB (l.drop i) = 3 := by unfold stepB; rw [he]; rfl
      rw [hs]
      rw [decL_esc i he, List.drop_drop, ht] at h2
      cases hx : decL (l.drop (i + 3)) (i + 3) with
      | error e => rw [hx] at h2; cases h2
      | ok t' =>
        rw [hx] at h2
        injection h2 with h2
        injection h2 with e1 e2
        rw [e2]
theorem offF_lt {l t : List UInt8} (h : decL l 0 = .ok t) (k : Nat) (hk : k < t.length) : offF l k < l.length := by
  have h1 := (offF_at h k (by omega)).1
  have h2 := (offF_at h (k + 1) (by omega)).1
  have h3 : offF l (k + 1) = offF l k + stepB (l.drop (offF l k)) := rfl
  have h4 : 0 < stepB (l.drop (offF l k)) := by unfold stepB; split <;> omega
  omega
/-- What Offset returns, as a value. -/
def offV (l : List UInt8) (n : Int) : Value := if askedN l n = 0 then (match decL l 0 with
  | .ok t => if (t.length : Int) < n then .tuple #[.int .i64 0, .int .i64 2] else .tuple #[.int .i64 (offF l n.toNat : Nat), .int .i64 0]
  | .error _ => .tuple #[.int .i64 0, .int .i64 0]) else .tuple #[.int .i64 0, .int .i64 (askedN l n : Nat)]
theorem asked_ok {l : List UInt8} {n : Int} (h : askedN l n = 0) : 0 ≤ n ∧ ∃ t, decL l 0 = .ok t := by
  unfold askedN at h
  split at h
  · cases h
  · split at h
    · rename_i t e
      exact ⟨by omega, t, e⟩
    · cases h
set_option maxHeartbeats 2000000 in
theorem refOffset_any (l : List UInt8) (hl : l.length < 1000000) (n : Int) (w : World) :
    Calls Try.prog 26 #[.string ⟨l.toArray⟩, .int .i64 n] w fun e w' => e = .returned (offV l n) ∧ Below w.heap.size w w' := by
  by_cases h0 : askedN l n = 0
  · obtain ⟨hn0, t, hd⟩ := asked_ok h0
    have htl := decL_length hd
    have hn : ¬ n < 0 := by omega
    obtain ⟨m, rfl⟩ := Int.eq_ofNat_of_zero_le hn0
    have HA := Lib.hid h0
    have HD := Lib.hid hd
    by_cases hm : t.length < m
    · have HR : Hid (offV l (m : Int) = .tuple #[.int .i64 0, .int .i64 2]) := Lib.hid (by unfold offV; rw [if_pos h0, hd]; exact if_pos (by omega))
      have h2 : decide ((t.length : Int) < (m : Int)) = true := decide_eq_true (by omega)
      clear h0 hd hn hn0
      go_enter Try.func26, Try.ntmps26
      go_wp2_with fail
      refine (asked_any l hl (m : Int) _).mono ?_
      rintro y w1 ⟨rfl, hb⟩
      rw [HA.out]
      go_wp2_with fail
      refine (refDecode_any l hl _).mono ?_
      rintro y w2 ⟨rfl, hb2⟩
      rw [HD.out]
      simp only [decV]
      have hB := hb.trans (hb2.mono hb.size)
      clear hb hb2
      go_wp2_with fail
      go_ret2
      exact ⟨by rw [HR.out]; rfl, hB.alloc hB.size _⟩
    · have HR : Hid (offV l (m : Int) = .tuple #[.int .i64 (offF l m : Nat), .int .i64 0]) := Lib.hid (by unfold offV; rw [if_pos h0, hd]; exact if_neg (by omega))
      have h2 : decide ((t.length : Int) < (m : Int)) = false := decide_eq_false (by omega)
      have HL := Lib.hid (fun k hk => offF_lt hd k hk)
      clear h0 hd hn hn0
      go_enter Try.func26, Try.ntmps26
      go_wp2_with fail
      refine (asked_any l hl (m : Int) _).mono ?_
      rintro y w1 ⟨rfl, hb⟩
      rw [HA.out]
      go_wp2_with fail
      refine (refDecode_any l hl _).mono ?_
      rintro y w2 ⟨rfl, hb2⟩
      rw [HD.out]
      simp only [decV]
      have hB := hb.trans (hb2.mono hb.size)
      clear hb hb2
      have hB := hB.alloc hB.size (.cells #[.int .i64 0, .int .i64 0] 28)
      go_wp2_with fail
      go_loopw [9, 10] (fun i k wr => ∃ (j q : Nat), i = .int .i64 j ∧ k = .int .i64 q ∧ q ≤ m ∧ Hid (offF l q = j) ∧ Below w.heap.size w wr)
        (fun _ k _ => m - (intOf k).toNat)
      case atStart => exact ⟨0, 0, rfl, rfl, Nat.zero_le _, Lib.hid rfl, hB⟩
      case round =>
        obtain ⟨j, q, rfl, rfl, hq, hj, hB⟩ := hrel
        by_cases hlt : q < m
        · have h1 : decide ((q : Int) < (m : Int)) = true := decide_eq_true (by omega)
          have hjl : j < l.length := by rw [← hj.out]; exact HL.out q (by omega)
          obtain ⟨p1, p2, p3⟩ := stepB_le hjl
          obtain ⟨s, hs⟩ : ∃ s, stepB (l.drop j) = s := ⟨_, rfl⟩
          have HS := Lib.hid hs
          rw [hs] at p1 p2 p3
          have q1 : IntKind.i64.wrap ((j : Int) + (s : Int)) = ((j + s : Nat) : Int) := (IntWalk.i64_in _ (by omega)).trans (by omega)
          have q2 : IntKind.i64.wrap ((q : Int) + 1) = ((q + 1 : Nat) : Int) := (IntWalk.i64_in _ (by omega)).trans (by omega)
          have hnext : Hid (offF l (q + 1) = j + s) := Lib.hid (by rw [← hs, ← hj.out]; rfl)
          clear hs
          go_wp2_with fail
          refine (step_any l hl j hjl _).mono ?_
          rintro e w' ⟨rfl, rfl⟩
          rw [HS.out]
          go_wp2_with fail
          go_roundw
          case rel => exact ⟨j + s, q + 1, by go_num, by go_num, by omega, hnext, hB⟩
          case measure => simp [intOf]; omega
        · have h1 : decide ((q : Int) < (m : Int)) = false := decide_eq_false (by omega)
          obtain rfl : q = m := by omega
          go_wp2_with fail
          go_ret2
          exact ⟨by rw [HR.out, hj.out]; rfl, hB⟩
  · obtain ⟨q, hq⟩ : ∃ q, askedN l n = q := ⟨_, rfl⟩
    have HR : Hid (offV l n = .tuple #[.int .i64 0, .int .i64 (q : Nat)]) := Lib.hid (by unfold offV; rw [if_neg h0, hq])
    rw [hq] at h0
    have HA := Lib.hid hq
    have h1 : ((q : Int) == 0) = false := by rw [beq_eq_false_iff_ne]; omega
    clear hq
    go_enter Try.func26, Try.ntmps26
    go_wp2_with fail
    refine (asked_any l hl n _).mono ?_
    rintro y w1 ⟨rfl, hb⟩
    rw [HA.out]
    go_wp2_with fail
    go_ret2
    exact ⟨by rw [HR.out]; rfl, hb⟩
/-- What Escapes returns, as a value. -/
def escsV (l : List UInt8) : Except Nat (List UInt8) → Value
  | .ok t => .tuple #[.int .i64 ((l.length - t.length) / 2 : Nat), .agg #[.int .i64 0, .int .i64 0]]
  | .error i => .tuple #[.int .i64 0, .agg #[.int .i64 3, .int .i64 (i : Int)]]
set_option maxHeartbeats 1000000 in
theorem refEscapes_any (l : List UInt8) (hl : l.length < 1000000) (w : World) :
    Calls Try.prog 16 #[.string ⟨l.toArray⟩] w fun e w' => e = .returned (escsV l (decL l 0)) ∧ Below w.heap.size w w' := by
  have hB0 : Below w.heap.size w (w.alloc (.cells #[.int .i64 0, .int .i64 0] 28)) := by go_grown
  have r0 := FBlk.new0 w
  cases hd : decL l 0 with
  | error i =>
    have HD := Lib.hid hd
    go_enter Try.func16, Try.ntmps16
    clear hd
    go_wp2_with fail
    refine (refDecode_any l hl _).mono ?_
    rintro y w1 ⟨rfl, hb⟩
    rw [HD.out]
    simp only [decV]
    have r1 : FBlk w1 w.heap.size 0 0 := (hb.block _ r0.lt).trans r0
    have hB1 := hB0.trans (hb.mono hB0.size)
    have l1 := r1.lt
    obtain ⟨c0, c1, f0, f1⟩ := r1.cells
    clear hb hB0 r0
    go_wp2_with fail
    go_region
    all_goals
      go_wp2_with fail
      exact bodyPost_ret ((((r1.store 3 i).alloc (.cells #[.int .i64 3, .int .i64 (i : Int)] 28)).drew).results rfl _ _ rfl rfl) rfl ⟨rfl, ((FBlk.belowStore (B := w.heap.size) hB1 (by omega) _ _).alloc (by simp; omega) _).drew⟩
  | ok t =>
    have htl := decL_length hd
    have HD := Lib.hid hd
    have q1 : IntKind.i64.wrap ((l.length : Int) - (t.length : Int)) = ((l.length - t.length : Nat) : Int) := (IntWalk.i64_in _ (by omega)).trans (by omega)
    obtain ⟨u, hu⟩ : ∃ u, l.length - t.length = u := ⟨_, rfl⟩
    rw [hu] at q1
    have HU := Lib.hid hu
    have q2 : ((u : Int)).tdiv 2 = ((u / 2 : Nat) : Int) := by rw [Int.tdiv_eq_ediv_of_nonneg (by omega)]; omega
    have hul : u < 1000000 := by omega
    have q3 : IntKind.i64.wrap ((u / 2 : Nat) : Int) = ((u / 2 : Nat) : Int) := IntWalk.i64_in _ (by omega)
    clear hu
    go_enter Try.func16, Try.ntmps16
    clear hd
    go_wp2_with fail
    refine (refDecode_any l hl _).mono ?_
    rintro y w1 ⟨rfl, hb⟩
    rw [HD.out]
    simp only [decV]
    have r1 : FBlk w1 w.heap.size 0 0 := (hb.block _ r0.lt).trans r0
    have hB1 := hB0.trans (hb.mono hB0.size)
    have l1 := r1.lt
    obtain ⟨c0, c1, f0, f1⟩ := r1.cells
    clear hb hB0 r0
    go_wp2_with fail
    refine bodyPost_ret (((r1.store 0 0).alloc (.cells #[.int .i64 0, .int .i64 0] 28)).results rfl _ _ rfl rfl) rfl ⟨?_, (FBlk.belowStore (B := w.heap.size) hB1 (by omega) _ _).alloc (by simp; omega) _⟩
    show Ending.returned (.tuple #[.int .i64 ((u : Int) / 2), _]) = Ending.returned (.tuple #[.int .i64 (((l.length - t.length) / 2 : Nat) : Int), _])
    rw [HU.out, show ((u / 2 : Nat) : Int) = (u : Int) / 2 by omega]
end Go.Proofs.Ytheajdgdllobbaa
