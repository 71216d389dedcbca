/-
  The reference's reader of patterns: how often a piece stands; an atom.
  The reference's reader of patterns: an atom.
-/
import Derived.Test.YtdnbnigebejgjaaGreatDoorHJV9
import Derived.Test.YtdnbnigebejgjaaGreatDoorHW1
namespace Go.Proofs.YtdnbnigebejgjaaGreatDoor
open Go.RowKit
attribute [local go_sem] w_0 w_1 w_2 w_3
theorem isB_one {t : List UInt8} {k : Nat} {b c : UInt8} (h : isB t k b = true) (hc : c ≠ b) : isB t k c = false := by
  unfold isB at *
  cases hd : t.drop k with
  | nil => rfl
  | cons x z =>
    rw [hd] at h
    have h1 : x = b := by simpa using h
    show (x == c) = false
    rw [h1]
    simpa using fun e => hc e.symm
theorem times_in {t : List UInt8} {s : RS} (h : s.e = 0) (l : List Nat) (x : Nat) (b : UInt8) (hb : signL x = [b]) : timesV t s (x :: l) = (if isB t s.k b = true then x else timesV t s l) ∧ timesR t s (x :: l) = (if isB t s.k b = true then ⟨s.k + 1, s.e, s.a⟩ else timesR t s l) := by
  rw [timesV, timesR, hb, ← isB_take h b]
  refine ⟨rfl, ?_⟩
  split
  · rename_i h1
    unfold takeR
    rw [if_pos (by rw [← isB_take h b]; exact h1)]
    rfl
  · rfl
/-- Whose signs are looked for. -/
def timL (g : Bool) : List Nat := if g = true then [3] else [1, 2, 3]
theorem times_is {t : List UInt8} {s : RS} (h : s.e = 0) (g q3 q1 q2 : Bool) (h3 : isB t s.k 63 = q3) (h1 : isB t s.k 42 = q1) (h2 : isB t s.k 43 = q2) :
    timesV t s (timL g) = (if q3 = true then 3 else if g = true then 0 else if q1 = true then 1 else if q2 = true then 2 else 0) ∧
    timesR t s (timL g) = (if q3 = true ∨ (g = false ∧ (q1 = true ∨ q2 = true)) then ⟨s.k + 1, s.e, s.a⟩ else s) := by
  subst h3 h1 h2
  unfold timL
  cases g with
  | true =>
    rw [if_pos rfl]
    obtain ⟨a, b⟩ := times_in h [] 3 63 rfl
    rw [a, b]
    cases isB t s.k 63 <;> simp [timesV, timesR]
  | false =>
    rw [if_neg (by simp)]
    obtain ⟨a1, b1⟩ := times_in h [2, 3] 1 42 rfl
    obtain ⟨a2, b2⟩ := times_in h [3] 2 43 rfl
    obtain ⟨a3, b3⟩ := times_in h [] 3 63 rfl
    rw [a1, b1, a2, b2, a3, b3]
    cases e3 : isB t s.k 63 with
    | true =>
      rw [isB_one (c := 42) e3 (by decide), isB_one (c := 43) e3 (by decide)]
      simp
    | false =>
      cases isB t s.k 42 <;> cases isB t s.k 43 <;> simp [timesV, timesR]
set_option maxHeartbeats 8000000 in
set_option maxRecDepth 100000 in
theorem rTimes_any (t : List UInt8) (s : RS) (x2 x3 x4 x5 : Value) (g : Bool) (W : World) (B : Nat) (h : RF W B t s x2 x3 x4 x5) (h0 : s.e = 0) (hle : s.k ≤ t.length) :
    Calls Tryz.prog 95 #[.pointer (some ⟨B, 0, none⟩), .bool g] W fun e w' => e = .returned (.int .i64 (timesV t s (timL g) : Int)) ∧ RF w' B t (timesR t s (timL g)) x2 x3 x4 x5 ∧ W.grownBy w' (some B) := by
  obtain ⟨k, e0, a0⟩ := s
  dsimp only at h0 hle
  subst h0
  have hlen := h.len
  obtain ⟨q3, h3⟩ : ∃ q, isB t k 63 = q := ⟨_, rfl⟩
  obtain ⟨q1, h1⟩ : ∃ q, isB t k 42 = q := ⟨_, rfl⟩
  obtain ⟨q2, h2⟩ : ∃ q, isB t k 43 = q := ⟨_, rfl⟩
  have H3 := Lib.hid fun W h => rIs_at t k 63 63 rfl q3 h3 W B 0 a0 x2 x3 x4 x5 h
  have H1 := Lib.hid fun W h => rIs_at t k 42 42 rfl q1 h1 W B 0 a0 x2 x3 x4 x5 h
  have H2 := Lib.hid fun W h => rIs_at t k 43 43 rfl q2 h2 W B 0 a0 x2 x3 x4 x5 h
  have HT := Lib.hid (times_is (t := t) (s := ⟨k, 0, a0⟩) rfl g q3 q1 q2 h3 h1 h2)
  have ww1 : IntKind.i64.wrap ((k : Int) + 1) = (k : Int) + 1 := jwrap (by omega) (by omega)
  clear h3 h1 h2
  cases q3 with
  | true =>
    go_enter Tryz.func95, Tryz.ntmps95
    go_wp2_with fail
    refine (H3.out _ h).mono ?_
    rintro e w1 ⟨rfl, m0, hw⟩
    have g10 : W.grownBy w1 (some B) := by rw [hw]; exact jgdrewN (jgrefl W (some B)) m0
    have h10 : RF w1 B t ⟨k, 0, a0⟩ x2 x3 x4 x5 := by rw [hw]; exact h.drewN m0
    clear hw
    obtain ⟨c0, c1, c6, c7⟩ := h10.cells
    have f1 := h10.free 1
    dsimp only at c1
    go_wp2_with fail
    go_ret
    exact ⟨by rw [HT.out.1]; rfl, by rw [HT.out.2]; exact h10.step (by dsimp only; omega), jgtrans g10 (jgset _ B 1 _)⟩
  | false =>
    cases g with
    | false =>
      cases q1 with
      | true =>
        go_enter Tryz.func95, Tryz.ntmps95
        go_wp2_with fail
        refine (H3.out _ h).mono ?_
        rintro e w1 ⟨rfl, m0, hw⟩
        have g10 : W.grownBy w1 (some B) := by rw [hw]; exact jgdrewN (jgrefl W (some B)) m0
        have h10 : RF w1 B t ⟨k, 0, a0⟩ x2 x3 x4 x5 := by rw [hw]; exact h.drewN m0
        clear hw
        go_wp2_with fail
        refine (H1.out _ h10).mono ?_
        rintro e w2 ⟨rfl, m1, hw⟩
        have g11 : W.grownBy w2 (some B) := by rw [hw]; exact jgdrewN (g10) m1
        have h11 : RF w2 B t ⟨k, 0, a0⟩ x2 x3 x4 x5 := by rw [hw]; exact h10.drewN m1
        clear hw
        obtain ⟨c0, c1, c6, c7⟩ := h11.cells
        have f1 := h11.free 1
        dsimp only at c1
        go_wp2_with fail
        go_ret
        exact ⟨by rw [HT.out.1]; rfl, by rw [HT.out.2]; exact h11.step (by dsimp only; omega), jgtrans g11 (jgset _ B 1 _)⟩
      | false =>
        cases q2 with
        | true =>
          go_enter Tryz.func95, Tryz.ntmps95
          go_wp2_with fail
          refine (H3.out _ h).mono ?_
          rintro e w1 ⟨rfl, m0, hw⟩
          have g10 : W.grownBy w1 (some B) := by rw [hw]; exact jgdrewN (jgrefl W (some B)) m0
          have h10 : RF w1 B t ⟨k, 0, a0⟩ x2 x3 x4 x5 := by rw [hw]; exact h.drewN m0
          clear hw
          go_wp2_with fail
          refine (H1.out _ h10).mono ?_
          rintro e w2 ⟨rfl, m1, hw⟩
          have g11 : W.grownBy w2 (some B) := by rw [hw]; exact jgdrewN (g10) m1
          have h11 : RF w2 B t ⟨k, 0, a0⟩ x2 x3 x4 x5 := by rw [hw]; exact h10.drewN m1
          clear hw
          go_wp2_with fail
          refine (H2.out _ h11).mono ?_
          rintro e w3 ⟨rfl, m2, hw⟩
          have g12 : W.grownBy w3 (some B) := by rw [hw]; exact jgdrewN (g11) m2
          have h12 : RF w3 B t ⟨k, 0, a0⟩ x2 x3 x4 x5 := by rw [hw]; exact h11.drewN m2
          clear hw
          obtain ⟨c0, c1, c6, c7⟩ := h12.cells
          have f1 := h12.free 1
          dsimp only at c1
          go_wp2_with fail
          go_ret
          exact ⟨by rw [HT.out.1]; rfl, by rw [HT.out.2]; exact h12.step (by dsimp only; omega), jgtrans g12 (jgset _ B 1 _)⟩
        | false =>
          go_enter Tryz.func95, Tryz.ntmps95
          go_wp2_with fail
          refine (H3.out _ h).mono ?_
          rintro e w1 ⟨rfl, m0, hw⟩
          have g10 : W.grownBy w1 (some B) := by rw [hw]; exact jgdrewN (jgrefl W (some B)) m0
          have h10 : RF w1 B t ⟨k, 0, a0⟩ x2 x3 x4 x5 := by rw [hw]; exact h.drewN m0
          clear hw
          go_wp2_with fail
          refine (H1.out _ h10).mono ?_
          rintro e w2 ⟨rfl, m1, hw⟩
          have g11 : W.grownBy w2 (some B) := by rw [hw]; exact jgdrewN (g10) m1
          have h11 : RF w2 B t ⟨k, 0, a0⟩ x2 x3 x4 x5 := by rw [hw]; exact h10.drewN m1
          clear hw
          go_wp2_with fail
          refine (H2.out _ h11).mono ?_
          rintro e w3 ⟨rfl, m2, hw⟩
          have g12 : W.grownBy w3 (some B) := by rw [hw]; exact jgdrewN (g11) m2
          have h12 : RF w3 B t ⟨k, 0, a0⟩ x2 x3 x4 x5 := by rw [hw]; exact h11.drewN m2
          clear hw
          go_wp2_with fail
          go_ret
          exact ⟨by rw [HT.out.1]; rfl, by rw [HT.out.2]; exact h12, g12⟩
    | true =>
      cases q1 with
      | true =>
        cases q2 with
        | true =>
          go_enter Tryz.func95, Tryz.ntmps95
          go_wp2_with fail
          refine (H3.out _ h).mono ?_
          rintro e w1 ⟨rfl, m0, hw⟩
          have g10 : W.grownBy w1 (some B) := by rw [hw]; exact jgdrewN (jgrefl W (some B)) m0
          have h10 : RF w1 B t ⟨k, 0, a0⟩ x2 x3 x4 x5 := by rw [hw]; exact h.drewN m0
          clear hw
          go_wp2_with fail
          refine (H1.out _ h10).mono ?_
          rintro e w2 ⟨rfl, m1, hw⟩
          have g11 : W.grownBy w2 (some B) := by rw [hw]; exact jgdrewN (g10) m1
          have h11 : RF w2 B t ⟨k, 0, a0⟩ x2 x3 x4 x5 := by rw [hw]; exact h10.drewN m1
          clear hw
          go_wp2_with fail
          refine (H2.out _ h11).mono ?_
          rintro e w3 ⟨rfl, m2, hw⟩
          have g12 : W.grownBy w3 (some B) := by rw [hw]; exact jgdrewN (g11) m2
          have h12 : RF w3 B t ⟨k, 0, a0⟩ x2 x3 x4 x5 := by rw [hw]; exact h11.drewN m2
          clear hw
          go_wp2_with fail
          go_ret
          exact ⟨by rw [HT.out.1]; rfl, by rw [HT.out.2]; exact h12, g12⟩
        | false =>
          go_enter Tryz.func95, Tryz.ntmps95
          go_wp2_with fail
          refine (H3.out _ h).mono ?_
          rintro e w1 ⟨rfl, m0, hw⟩
          have g10 : W.grownBy w1 (some B) := by rw [hw]; exact jgdrewN (jgrefl W (some B)) m0
          have h10 : RF w1 B t ⟨k, 0, a0⟩ x2 x3 x4 x5 := by rw [hw]; exact h.drewN m0
          clear hw
          go_wp2_with fail
          refine (H1.out _ h10).mono ?_
          rintro e w2 ⟨rfl, m1, hw⟩
          have g11 : W.grownBy w2 (some B) := by rw [hw]; exact jgdrewN (g10) m1
          have h11 : RF w2 B t ⟨k, 0, a0⟩ x2 x3 x4 x5 := by rw [hw]; exact h10.drewN m1
          clear hw
          go_wp2_with fail
          refine (H2.out _ h11).mono ?_
          rintro e w3 ⟨rfl, m2, hw⟩
          have g12 : W.grownBy w3 (some B) := by rw [hw]; exact jgdrewN (g11) m2
          have h12 : RF w3 B t ⟨k, 0, a0⟩ x2 x3 x4 x5 := by rw [hw]; exact h11.drewN m2
          clear hw
          go_wp2_with fail
          go_ret
          exact ⟨by rw [HT.out.1]; rfl, by rw [HT.out.2]; exact h12, g12⟩
      | false =>
        cases q2 with
        | true =>
          go_enter Tryz.func95, Tryz.ntmps95
          go_wp2_with fail
          refine (H3.out _ h).mono ?_
          rintro e w1 ⟨rfl, m0, hw⟩
          have g10 : W.grownBy w1 (some B) := by rw [hw]; exact jgdrewN (jgrefl W (some B)) m0
          have h10 : RF w1 B t ⟨k, 0, a0⟩ x2 x3 x4 x5 := by rw [hw]; exact h.drewN m0
          clear hw
          go_wp2_with fail
          refine (H1.out _ h10).mono ?_
          rintro e w2 ⟨rfl, m1, hw⟩
          have g11 : W.grownBy w2 (some B) := by rw [hw]; exact jgdrewN (g10) m1
          have h11 : RF w2 B t ⟨k, 0, a0⟩ x2 x3 x4 x5 := by rw [hw]; exact h10.drewN m1
          clear hw
          go_wp2_with fail
          refine (H2.out _ h11).mono ?_
          rintro e w3 ⟨rfl, m2, hw⟩
          have g12 : W.grownBy w3 (some B) := by rw [hw]; exact jgdrewN (g11) m2
          have h12 : RF w3 B t ⟨k, 0, a0⟩ x2 x3 x4 x5 := by rw [hw]; exact h11.drewN m2
          clear hw
          go_wp2_with fail
          go_ret
          exact ⟨by rw [HT.out.1]; rfl, by rw [HT.out.2]; exact h12, g12⟩
        | false =>
          go_enter Tryz.func95, Tryz.ntmps95
          go_wp2_with fail
          refine (H3.out _ h).mono ?_
          rintro e w1 ⟨rfl, m0, hw⟩
          have g10 : W.grownBy w1 (some B) := by rw [hw]; exact jgdrewN (jgrefl W (some B)) m0
          have h10 : RF w1 B t ⟨k, 0, a0⟩ x2 x3 x4 x5 := by rw [hw]; exact h.drewN m0
          clear hw
          go_wp2_with fail
          refine (H1.out _ h10).mono ?_
          rintro e w2 ⟨rfl, m1, hw⟩
          have g11 : W.grownBy w2 (some B) := by rw [hw]; exact jgdrewN (g10) m1
          have h11 : RF w2 B t ⟨k, 0, a0⟩ x2 x3 x4 x5 := by rw [hw]; exact h10.drewN m1
          clear hw
          go_wp2_with fail
          refine (H2.out _ h11).mono ?_
          rintro e w3 ⟨rfl, m2, hw⟩
          have g12 : W.grownBy w3 (some B) := by rw [hw]; exact jgdrewN (g11) m2
          have h12 : RF w3 B t ⟨k, 0, a0⟩ x2 x3 x4 x5 := by rw [hw]; exact h11.drewN m2
          clear hw
          go_wp2_with fail
          go_ret
          exact ⟨by rw [HT.out.1]; rfl, by rw [HT.out.2]; exact h12, g12⟩
end Go.Proofs.YtdnbnigebejgjaaGreatDoor
namespace Go.Proofs.YtdnbnigebejgjaaGreatDoor
open Go.RowKit
attribute [local go_sem] w_0 w_1 w_2 w_3
theorem hd_at {t : List UInt8} {s : RS} (h : s.e = 0) (hk : s.k < t.length) : restR t s = t[s.k] :: t.drop (s.k + 1) := by
  unfold restR
  rw [if_pos h, List.drop_eq_getElem_cons hk]
theorem ix_mem (l : List UInt8) (b : UInt8) : decide (0 ≤ Lib.indexByte l b) = l.contains b := (contains_ix l b).symm
def specL : List UInt8 := [94, 36, 46, 42, 43, 63, 40, 41, 91, 93, 124, 92]
/-- Where a piece may begin, a byte is special or not. -/
theorem spec_is {c : UInt8} (h40 : c ≠ 40) (h46 : c ≠ 46) (h91 : c ≠ 91) (h92 : c ≠ 92) : specL.contains c = behindL.contains c := by
  unfold specL behindL
  simp only [List.contains_cons, List.contains_nil]
  rw [show (c == 40) = false by simpa using h40, show (c == 46) = false by simpa using h46, show (c == 91) = false by simpa using h91, show (c == 92) = false by simpa using h92]
  cases (c == 94) <;> cases (c == 36) <;> cases (c == 42) <;> cases (c == 43) <;> cases (c == 63) <;> cases (c == 41) <;> cases (c == 93) <;> cases (c == 124) <;> rfl
theorem set_named {t : List UInt8} {s : RS} (h : (namedV t s).2 = true) : setV t s = elV t s ∧ setR t s = elR t s := by
  unfold setV setR elV elR
  rw [if_pos h, if_pos h, if_pos h, if_pos h]
  exact ⟨rfl, rfl⟩
theorem named_not92 {t : List UInt8} {k a : Nat} (hk : k < t.length) (h : t[k] ≠ 92) : (namedV t ⟨k, 0, a⟩).2 = false := by
  rw [named_is rfl]
  dsimp only
  rw [isB_in _ hk, show (t[k] == 92) = false by simpa using h]
  rfl
theorem take_at {t : List UInt8} {k a : Nat} (hk : k < t.length) (b : UInt8) : takeB t ⟨k, 0, a⟩ [b] = (t[k] == b) := by
  rw [← isB_take rfl, isB_in _ hk]
/-- The parser's set at a point, a bracket, a backslash, and another byte. -/
theorem set_dot {t : List UInt8} {k a : Nat} (hk : k < t.length) (h : t[k] = 46) : setV t ⟨k, 0, a⟩ = WSet.empty.not ∧ setR t ⟨k, 0, a⟩ = ⟨k + 1, 0, a⟩ := by
  have hn := named_not92 (a := a) hk (by rw [h]; decide)
  have h46 : takeB t ⟨k, 0, a⟩ [46] = true := by rw [take_at hk, h]; rfl
  unfold setV setR
  rw [if_neg (by rw [hn]; simp), if_pos h46, if_neg (by rw [hn]; simp), if_pos h46]
  unfold takeR
  rw [if_pos h46]
  exact ⟨rfl, rfl⟩
theorem set_cls {t : List UInt8} {k a : Nat} (hk : k < t.length) (h : t[k] = 91) : setV t ⟨k, 0, a⟩ = clsV t ⟨k + 1, 0, a⟩ ∧ setR t ⟨k, 0, a⟩ = clsR t ⟨k + 1, 0, a⟩ := by
  have hn := named_not92 (a := a) hk (by rw [h]; decide)
  have h46 : takeB t ⟨k, 0, a⟩ [46] = false := by rw [take_at hk, h]; rfl
  have h91 : takeB t ⟨k, 0, a⟩ [91] = true := by rw [take_at hk, h]; rfl
  have e : takeR t ⟨k, 0, a⟩ [91] = ⟨k + 1, 0, a⟩ := by unfold takeR; rw [if_pos h91]; rfl
  unfold setV setR
  rw [if_neg (by rw [hn]; simp), if_neg (by rw [h46]; simp), if_pos h91, if_neg (by rw [hn]; simp), if_neg (by rw [h46]; simp), if_pos h91, e]
  exact ⟨rfl, rfl⟩
theorem sees_nil {t : List UInt8} {k a : Nat} : seesB t ⟨k, 0, a⟩ [] = decide (k < t.length) := by
  unfold seesB restR
  rw [if_pos rfl]
  by_cases hk : k < t.length
  · rw [List.drop_eq_getElem_cons hk, decide_eq_true hk]; rfl
  · rw [List.drop_eq_nil_of_le (by dsimp only; omega), decide_eq_false hk]; rfl
theorem set_esc {t : List UInt8} {k a : Nat} (hk : k < t.length) (h : t[k] = 92) : RelC (escV t ⟨k + 1, 0, a⟩) (escR t ⟨k + 1, 0, a⟩) (setV t ⟨k, 0, a⟩) (setR t ⟨k, 0, a⟩) := by
  cases hn : (namedV t ⟨k, 0, a⟩).2 with
  | true =>
    obtain ⟨_, e1, e2⟩ := named_esc hn
    obtain ⟨f1, f2⟩ := set_named hn
    rw [← e1, ← e2, f1, f2]
    exact ⟨fun _ => ⟨rfl, rfl⟩, fun _ => ⟨rfl, rfl⟩⟩
  | false =>
    have h46 : takeB t ⟨k, 0, a⟩ [46] = false := by rw [take_at hk, h]; rfl
    have h91 : takeB t ⟨k, 0, a⟩ [91] = false := by rw [take_at hk, h]; rfl
    have h92 : takeB t ⟨k, 0, a⟩ [92] = true := by rw [take_at hk, h]; rfl
    have e : takeR t ⟨k, 0, a⟩ [92] = ⟨k + 1, 0, a⟩ := by unfold takeR; rw [if_pos h92]; rfl
    have hV : setV t ⟨k, 0, a⟩ = ofW (oneV t ⟨k + 1, 0, a⟩ []) := by
      unfold setV
      rw [if_neg (by rw [hn]; simp), if_neg (by rw [h46]; simp), if_neg (by rw [h91]; simp), e]
    have hR : setR t ⟨k, 0, a⟩ = oneR t ⟨k + 1, 0, a⟩ [] := by
      unfold setR
      rw [if_neg (by rw [hn]; simp), if_neg (by rw [h46]; simp), if_neg (by rw [h91]; simp), e]
    rw [hV, hR]
    by_cases hlt : k + 1 < t.length
    · obtain ⟨a1, a2⟩ := one_yes (t := t) (n := k + 1) (e := 0) (a := a) (o := []) (by rw [sees_nil]; exact decide_eq_true hlt) hlt
      rw [a1, a2]
      have hn2 := named_is (t := t) (s := ⟨k, 0, a⟩) rfl
      dsimp only at hn2
      rw [hn, isB_in _ hk, h, isB_in _ hlt, isB_in _ hlt] at hn2
      have hn3 : ((t[k + 1] == 100) || (t[k + 1] == 119)) = false := hn2.symm
      rw [Bool.or_eq_false_iff] at hn3
      unfold escV escR escB
      rw [if_pos hlt, List.getElem?_eq_getElem hlt]
      dsimp only
      rw [if_neg (beq_eq_false_iff_ne.1 hn3.1), if_neg (beq_eq_false_iff_ne.1 hn3.2)]
      exact ⟨fun _ => ⟨rfl, rfl⟩, fun _ => ⟨rfl, rfl⟩⟩
    · obtain ⟨a1, a2⟩ := one_no (t := t) (n := k + 1) (e := 0) (a := a) (o := []) (by rw [sees_nil]; exact decide_eq_false hlt)
      rw [a1, a2]
      unfold escR
      rw [if_neg hlt]
      have hf : failR ⟨k + 1, 0, a⟩ 3 (k + 1) = ⟨k + 1, 3, k + 1⟩ := rfl
      rw [hf]
      exact ⟨fun e => (by cases e), fun _ => ⟨rfl, rfl⟩⟩
theorem set_of {t : List UInt8} {k a : Nat} (hk : k < t.length) (h46 : t[k] ≠ 46) (h91 : t[k] ≠ 91) (h92 : t[k] ≠ 92) : setV t ⟨k, 0, a⟩ = ofW t[k] ∧ setR t ⟨k, 0, a⟩ = ⟨k + 1, 0, a⟩ := by
  have hn := named_not92 (a := a) hk h92
  have e46 : takeB t ⟨k, 0, a⟩ [46] = false := by rw [take_at hk]; simpa using h46
  have e91 : takeB t ⟨k, 0, a⟩ [91] = false := by rw [take_at hk]; simpa using h91
  have e92 : takeB t ⟨k, 0, a⟩ [92] = false := by rw [take_at hk]; simpa using h92
  obtain ⟨a1, a2⟩ := one_yes (t := t) (n := k) (e := 0) (a := a) (o := []) (by rw [sees_nil]; exact decide_eq_true hk) hk
  unfold setV setR
  rw [if_neg (by rw [hn]; simp), if_neg (by rw [e46]; simp), if_neg (by rw [e91]; simp), if_neg (by rw [hn]; simp), if_neg (by rw [e46]; simp), if_neg (by rw [e91]; simp), takeR_no e92, a1, a2]
  exact ⟨rfl, rfl⟩
theorem sees_hd {t : List UInt8} {k a : Nat} (hk : k < t.length) : seesB t ⟨k, 0, a⟩ behindL = !(behindL.contains t[k]) := by
  unfold seesB
  rw [hd_at (s := ⟨k, 0, a⟩) rfl hk]
  rfl
set_option maxHeartbeats 16000000 in
set_option maxRecDepth 100000 in
theorem rAtom_any (t : List UInt8) (s : RS) (x2 x3 x4 x5 : Value) (W : World) (B : Nat) (h : RF W B t s x2 x3 x4 x5) (h0 : s.e = 0) (hk : s.k < t.length) (h40 : t[s.k] ≠ 40) :
    Calls Tryz.prog 94 #[.pointer (some ⟨B, 0, none⟩)] W fun e w' => ∃ (v : WSet) (s' : RS), e = .returned v.v ∧ (seesB t s behindL = true → RelC v s' (setV t s) (setR t s)) ∧ (doomB t s = true → s'.e = 3 ∧ s'.a = s.k) ∧ RF w' B t s' x2 x3 x4 x5 ∧ W.grownBy w' (some B) := by
  have hlen := h.len
  have hBW := h.lt
  obtain ⟨k, e0, a0⟩ := s
  dsimp only at h0 hk h40
  subst h0
  obtain ⟨X, hX⟩ : ∃ X, W.alloc (.cells #[.int .u64 0, .int .u64 0, .int .u64 0, .int .u64 0] 41) = X := ⟨_, rfl⟩
  have r1 : Blk X W.heap.size .empty := by rw [← hX]; exact Blk.new0 W
  have h1 : RF X B t ⟨k, 0, a0⟩ x2 x3 x4 x5 := by rw [← hX]; exact h.alloc _
  have g1 : W.grownBy X (some B) := by rw [← hX]; exact jgal (jgrefl W _) _
  have HX := Lib.hid hX
  have hx : k < (ByteArray.mk t.toArray).size := hk
  have gg := ba_get t k hx
  have HD := Lib.hid (set_dot (a := a0) hk)
  have HC := Lib.hid (set_cls (a := a0) hk)
  have HE := Lib.hid (set_esc (a := a0) hk)
  have HO := Lib.hid (set_of (a := a0) hk)
  have HSE := Lib.hid (sees_hd (a := a0) hk)
  have hdm : doomB t ⟨k, 0, a0⟩ = true → seesB t ⟨k, 0, a0⟩ behindL = false := fun e => (doom_take e).2.2.2.1
  have HDM := Lib.hid hdm
  obtain ⟨c, hc⟩ : ∃ c, t[k] = c := ⟨_, rfl⟩
  rw [hc] at gg h40 HD HC HE HO HSE
  have hb9 : (k : Int) < (t.length : Int) := by omega
  have ww1 : IntKind.i64.wrap ((k : Int) + 1) = (k : Int) + 1 := jwrap (by omega) (by omega)
  have ww2 : IntKind.i64.wrap ((k : Int) + 1 - 1) = (k : Int) := by rw [jwrap (by omega) (by omega)]; omega
  obtain ⟨c0, c1, c6, c7⟩ := h1.cells
  dsimp only at c1
  have HS := Lib.hid fun m => (h1.drewN m).step (by show k ≤ t.length; omega)
  dsimp only at HS
  have HR1 := Lib.hid fun m => (show Blk (X.drewN m) W.heap.size .empty from r1)
  have HG := Lib.hid fun m => jgdrewN g1 m
  have f1 := h1.free 1
  have eqc : ∀ n : UInt8, ((c.toNat : Int) == (n.toNat : Int)) = (c == n) := fun n => by
    rw [Bool.eq_iff_iff, beq_iff_eq, beq_iff_eq]
    exact ⟨fun e => UInt8.toNat_inj.1 (by omega), fun e => by rw [e]⟩
  have e46 := eqc 46
  have e91 := eqc 91
  have e92 := eqc 92
  have HEQ := Lib.hid (And.intro e46 (And.intro e91 e92))
  have hk1 : k + 1 ≤ t.length := hk
  clear hc r1 h1 g1 h hdm eqc e46 e91 e92 hX
  go_enter Tryz.func94, Tryz.ntmps94
  go_wp2_with fail
  rw [HX.out]
  go_quiet (fail)
  go_upto_region 3 with fail
  generalize hY : World.setCell _ ⟨B, 1, none⟩ (.int .i64 ((k : Int) + 1)) = Y
  have h5 : RF Y B t ⟨k + 1, 0, a0⟩ x2 x3 x4 x5 := by rw [← hY]; exact HS.out _
  have r5 : Blk Y W.heap.size .empty := by rw [← hY]; exact (HR1.out _).other _ (by show B ≠ _; omega) _
  have g5 : W.grownBy Y (some B) := by rw [← hY]; exact jgtrans (HG.out _) (jgset _ B 1 _)
  clear hY c0 c1 c6 c7 f1 HS HR1 HG HX ww1 gg hb9
  by_cases i46 : c = 46
  · subst i46
    have b1 : (((46 : UInt8).toNat : Int) == 46) = true := by decide
    obtain ⟨⟨s0, s1, s2, s3⟩, hS⟩ : ∃ S, WSet.empty.not = S := ⟨_, rfl⟩
    have HN := Lib.hid fun W => refNot_any 0 0 0 0 W
    have HD2 := Lib.hid (HD.out rfl)
    have hSS : (WSet.mk 0 0 0 0).not = ⟨s0, s1, s2, s3⟩ := hS
    rw [hSS] at HN
    rw [hS] at HD2
    have HNS : Hid (seesB t ⟨k, 0, a0⟩ behindL = true) := Lib.hid (by rw [HSE.out]; decide)
    clear hS hSS HD HC HE HO
    go_wp2_with fail
    refine (HN.out _).mono ?_
    rintro e w7 ⟨rfl, hb7⟩
    have h7 := h5.below hb7 h5.lt
    have r7 := r5.below hb7 r5.lt
    have g7 := jgbe g5 hb7
    obtain ⟨f0, f1, f2, f3⟩ := r7.frees
    obtain ⟨d0, d1, d2, d3⟩ := r7.cells
    go_wp2_with fail
    refine bodyPost_ret ((r7.store4 s0 s1 s2 s3).results rfl _ rfl) rfl ⟨_, _, rfl, fun _ => ?_, fun e => (by rw [HDM.out e] at HNS; exact absurd HNS.out (by simp)), h7.store (by omega) _ _ _ _, jgstore g7 (Nat.le_refl _) _ _ _ _⟩
    rw [HD2.out.1, HD2.out.2]
    exact ⟨fun _ => ⟨rfl, rfl⟩, fun e => absurd rfl e⟩
  have b46 : ((c.toNat : Int) == 46) = false := HEQ.out.1.trans (by simpa using i46)
  by_cases i91 : c = 91
  · subst i91
    have b1 : (((91 : UInt8).toNat : Int) == 91) = true := by decide
    have HN := Lib.hid fun W h => rClass_any t ⟨k + 1, 0, a0⟩ x2 x3 x4 x5 W B h rfl (by dsimp only; omega)
    have HD2 := Lib.hid (HC.out rfl)
    rw [← HD2.out.1, ← HD2.out.2] at HN
    have HNS : Hid (seesB t ⟨k, 0, a0⟩ behindL = true) := Lib.hid (by rw [HSE.out]; decide)
    clear HD HC HE HO
    go_wp2_with fail
    refine (HN.out _ h5).mono ?_
    rintro e w7 ⟨⟨s0, s1, s2, s3⟩, s', rfl, hrel, h7, gb⟩
    have HRL := Lib.hid hrel
    have r7 : Blk w7 W.heap.size .empty := r5.kept gb (jne hBW)
    have g7 := jgtrans g5 gb
    obtain ⟨f0, f1, f2, f3⟩ := r7.frees
    obtain ⟨d0, d1, d2, d3⟩ := r7.cells
    clear hrel gb r5 g5 h5
    go_wp2_with fail
    exact bodyPost_ret ((r7.store4 s0 s1 s2 s3).results rfl _ rfl) rfl ⟨_, _, rfl, fun _ => HRL.out, fun e => (by rw [HDM.out e] at HNS; exact absurd HNS.out (by simp)), h7.store (by omega) _ _ _ _, jgstore g7 (Nat.le_refl _) _ _ _ _⟩
  have b91 : ((c.toNat : Int) == 91) = false := HEQ.out.2.1.trans (by simpa using i91)
  by_cases i92 : c = 92
  · subst i92
    have b1 : (((92 : UInt8).toNat : Int) == 92) = true := by decide
    have HN := Lib.hid fun W h => rEscape_any t ⟨k + 1, 0, a0⟩ x2 x3 x4 x5 W B h rfl (by dsimp only; omega)
    have HD2 := Lib.hid (HE.out rfl)
    obtain ⟨⟨s0, s1, s2, s3⟩, hS⟩ : ∃ S, escV t ⟨k + 1, 0, a0⟩ = S := ⟨_, rfl⟩
    rw [hS] at HN HD2
    have HNS : Hid (seesB t ⟨k, 0, a0⟩ behindL = true) := Lib.hid (by rw [HSE.out]; decide)
    clear HD HC HE HO hS
    go_wp2_with fail
    refine (HN.out _ h5).mono ?_
    rintro e w7 ⟨rfl, h7, gb⟩
    have r7 : Blk w7 W.heap.size .empty := r5.kept gb (jne hBW)
    have g7 := jgtrans g5 gb
    obtain ⟨f0, f1, f2, f3⟩ := r7.frees
    obtain ⟨d0, d1, d2, d3⟩ := r7.cells
    clear gb r5 g5 h5
    go_wp2_with fail
    exact bodyPost_ret ((r7.store4 s0 s1 s2 s3).results rfl _ rfl) rfl ⟨_, _, rfl, fun _ => HD2.out, fun e => (by rw [HDM.out e] at HNS; exact absurd HNS.out (by simp)), h7.store (by omega) _ _ _ _, jgstore g7 (Nat.le_refl _) _ _ _ _⟩
  have b92 : ((c.toNat : Int) == 92) = false := HEQ.out.2.2.trans (by simpa using i92)
  have HIN := Lib.hid fun W => in_any specL (by decide) c.toNat c.toNat_lt W
  rw [UInt8.ofNat_toNat, ix_mem, spec_is h40 i46 i91 i92] at HIN
  have HD2 := Lib.hid (HO.out i46 i91 i92)
  obtain ⟨q, hq⟩ : ∃ q, behindL.contains c = q := ⟨_, rfl⟩
  rw [hq] at HIN HSE
  obtain ⟨⟨s0, s1, s2, s3⟩, hS⟩ : ∃ S, ofW c = S := ⟨_, rfl⟩
  have HOF := Lib.hid (refOf1_at c)
  rw [hS] at HOF HD2
  unfold specL at HIN
  clear HD HC HE HO hS hq i46 i91 i92 h40
  cases q with
  | true =>
    have HW := Lib.hid fun W h => rWrong_any t ⟨k + 1, 0, a0⟩ x2 x3 x4 x5 3 k W B h
    go_wp2_with fail
    refine (HIN.out _).mono ?_
    rintro e w6 ⟨rfl, hw6⟩
    rw [← hw6]
    clear hw6
    obtain ⟨c0, c1, c6, c7⟩ := h5.cells
    have c1 : Y.cell? ⟨B, 1, none⟩ = some (.int .i64 ((k : Int) + 1)) := c1
    go_wp2_with fail
    refine (HW.out _ h5).mono ?_
    rintro e w6 ⟨rfl, h6, gb⟩
    have r6 : Blk w6 W.heap.size .empty := r5.kept gb (jne hBW)
    have g6 := jgtrans g5 gb
    clear gb r5 g5 h5 c0 c1 c6 c7
    go_wp2_with fail
    refine (HOF.out _ _ _ (heap_alloc_new w6 _)).mono ?_
    rintro e w7 ⟨rfl, hb7⟩
    have h7 := (h6.alloc _).below hb7 (h6.alloc _).lt
    have r7 := (r6.alloc _).below hb7 (r6.alloc _).lt
    have g7 := jgbe (jgal g6 _) hb7
    obtain ⟨f0, f1, f2, f3⟩ := r7.frees
    obtain ⟨d0, d1, d2, d3⟩ := r7.cells
    go_wp2_with fail
    refine bodyPost_ret ((r7.store4 s0 s1 s2 s3).results rfl _ rfl) rfl ⟨_, _, rfl, fun e => ?_, fun _ => ⟨rfl, rfl⟩, h7.store (by omega) _ _ _ _, jgstore g7 (Nat.le_refl _) _ _ _ _⟩
    rw [HSE.out] at e
    cases e
  | false =>
    go_wp2_with fail
    refine (HIN.out _).mono ?_
    rintro e w6 ⟨rfl, hw6⟩
    rw [← hw6]
    clear hw6
    go_wp2_with fail
    refine (HOF.out _ _ _ (heap_alloc_new Y _)).mono ?_
    rintro e w7 ⟨rfl, hb7⟩
    have h7 := (h5.alloc _).below hb7 (h5.alloc _).lt
    have r7 := (r5.alloc _).below hb7 (r5.alloc _).lt
    have g7 := jgbe (jgal g5 _) hb7
    obtain ⟨f0, f1, f2, f3⟩ := r7.frees
    obtain ⟨d0, d1, d2, d3⟩ := r7.cells
    go_wp2_with fail
    refine bodyPost_ret ((r7.store4 s0 s1 s2 s3).results rfl _ rfl) rfl ⟨_, _, rfl, fun _ => ?_, fun e => ?_, h7.store (by omega) _ _ _ _, jgstore g7 (Nat.le_refl _) _ _ _ _⟩
    · rw [HD2.out.1, HD2.out.2]
      exact ⟨fun _ => ⟨rfl, rfl⟩, fun e => absurd rfl e⟩
    · have := HDM.out e
      rw [HSE.out] at this
      cases this
end Go.Proofs.YtdnbnigebejgjaaGreatDoor
