/-
  The library's public ParseUint to the base 16, for two bytes, and the program's readEscape for every text.
-/
import Derived.Test.YtacceiloggnekaaDoorRPParse
namespace Go.Proofs.YtacceiloggnekaaDoor
open Go.RowKit
attribute [local go_sem] ba_get
theorem hxF_bound : ∀ (l : List UInt8) (n k m : Nat), hxF l n = some k → n + 1 ≤ m → k + 1 ≤ m * 16 ^ l.length
  | [], n, k, m, h, hm => by cases h; simpa using hm
  | c :: r, n, k, m, h, hm => by
    unfold hxF at h
    split at h
    · have hv : hexB c < 16 := (valH_lt _).2
      have := hxF_bound r _ k (m * 16) h (by omega)
      rw [List.length_cons, Nat.pow_succ, Nat.mul_comm (16 ^ r.length) 16, ← Nat.mul_assoc]
      exact this
    · cases h
theorem pub16_some (l : List UInt8) (hl : l.length = 2) (n : Nat) (h : hxF l 0 = some n) (w : World) :
    Calls Tryd.prog 81 #[.string ⟨l.toArray⟩, .int .i64 16, .int .i64 8] w fun e w' => e = .returned (.tuple #[.int .u64 (n : Int), .nilIface]) ∧ Below w.heap.size w w' := by
  have H := fun W => parse16_any l hl W
  rw [h] at H
  have H := Lib.hid H
  clear h hl
  go_enter Tryd.func81, Tryd.ntmps81
  go_wp2_with fail
  refine (H.out _).mono ?_
  rintro e w1 ⟨rfl, hb⟩
  rw [show hxV (some n) = .tuple #[.int .u64 (n : Int), .nilIface] from rfl]
  go_wp2_with fail
  go_ret2
  exact ⟨rfl, hb⟩
theorem pub16_none (l : List UInt8) (hl : l.length = 2) (h : hxF l 0 = none) (w : World) (hT : VT w) :
    Calls Tryd.prog 81 #[.string ⟨l.toArray⟩, .int .i64 16, .int .i64 8] w fun e w' => (∃ p, e = .returned (.tuple #[.int .u64 0, .iface 92 p])) ∧ Below w.heap.size w w' := by
  have H := fun W => parse16_any l hl W
  rw [h] at H
  have H := Lib.hid H
  have HT := Lib.hid hT
  have HL := Lib.hid hl
  clear h hl hT
  go_enter Tryd.func81, Tryd.ntmps81
  go_wp2_with fail
  refine (H.out _).mono ?_
  rintro e w1 ⟨rfl, hb⟩
  rw [show hxV none = .tuple #[.int .u64 0, .iface 89 (.int .i64 2)] from rfl]
  have HB := Lib.hid hb
  clear hb
  go_wp2_with fail
  obtain ⟨ev, h1, h2⟩ := (HT.out.below HB.out).syn
  refine (Any.strconv_toError_syntax laysC245 ⟨#[80, 97, 114, 115, 101, 85, 105, 110, 116]⟩ ⟨l.toArray⟩ 16 8 ev _ (by have := HL.out; show l.length ≤ _; omega) h1 h2).mono ?_
  rintro e w2 ⟨N, rfl, -, -, hb2⟩
  have HB2 := Lib.hid (HB.out.trans (hb2.mono HB.out.size))
  clear hb2 h1 h2
  go_wp2_with fail
  go_ret2
  exact ⟨⟨_, rfl⟩, HB2.out⟩
/-- The escape with which a text begins: its byte and its length; 0 if it is none. -/
def rdE : List UInt8 → Nat × Nat
  | _ :: d :: r => if d.toNat = 34 ∨ d.toNat = 92 then (d.toNat, 2) else
    match r with
    | e :: f :: _ => if d.toNat = 120 ∧ 0 ≤ hexB e ∧ 0 ≤ hexB f then (16 * (hexB e).toNat + (hexB f).toNat, 4) else (0, 0)
    | _ => (0, 0)
  | _ => (0, 0)
theorem stepQ_rdE {c : UInt8} {r : List UInt8} (hc : c.toNat = 92) : stepQ (c :: r) = if (rdE (c :: r)).2 = 0 then (0, none) else ((rdE (c :: r)).2, some (UInt8.ofNat (rdE (c :: r)).1)) := by
  unfold stepQ
  dsimp only
  rw [if_neg (by omega), if_neg (by omega), if_neg (by omega)]
  cases r with
  | nil => rfl
  | cons d r2 =>
    unfold rdE
    dsimp only
    split
    · simp
    · cases r2 with
      | nil => rfl
      | cons e r3 =>
        cases r3 with
        | nil => rfl
        | cons f r4 =>
          dsimp only
          split
          · rfl
          · rfl
theorem rdE_lt : ∀ l : List UInt8, (rdE l).1 < 256
  | [] => by decide
  | [_] => by show 0 < 256; decide
  | [_, d] => by
    unfold rdE
    dsimp only
    split
    · exact UInt8.toNat_lt _
    · decide
  | [_, d, _] => by
    unfold rdE
    dsimp only
    split
    · exact UInt8.toNat_lt _
    · decide
  | _ :: d :: e :: f :: _ => by
    have h1 : hexB e < 16 := (valH_lt _).2
    have h2 : hexB f < 16 := (valH_lt _).2
    unfold rdE
    dsimp only
    split
    · exact UInt8.toNat_lt _
    · split
      · show 16 * _ + _ < 256
        omega
      · decide
def rdV (l : List UInt8) : Value := .tuple #[.int .u8 ((rdE l).1 : Int), .int .i64 ((rdE l).2 : Int)]
theorem hx_two (e f : UInt8) : hxF [e, f] 0 = if 0 ≤ hexB e ∧ 0 ≤ hexB f then some (16 * (hexB e).toNat + (hexB f).toNat) else none := by
  unfold hxF
  by_cases h : 0 ≤ hexB e
  · rw [if_pos h]
    unfold hxF
    by_cases h2 : 0 ≤ hexB f
    · rw [if_pos h2, if_pos ⟨h, h2⟩]
      unfold hxF
      simp
    · rw [if_neg h2, if_neg (fun g => h2 g.2)]
  · rw [if_neg h, if_neg (fun g => h g.1)]
set_option maxRecDepth 100000 in
set_option maxHeartbeats 4000000 in
theorem readEscape_any (l : List UInt8) (hl : l.length < 1000000) (w : World) (hT : VT w) :
    Calls Tryd.prog 68 #[.string ⟨l.toArray⟩] w fun e w' => e = .returned (rdV l) ∧ Below w.heap.size w w' := by
  by_cases h2 : 2 ≤ l.length
  · obtain ⟨c, d, r, hL⟩ : ∃ c d r, l = c :: d :: r := by
      match l, h2 with
      | c :: d :: r, _ => exact ⟨c, d, r, rfl⟩
    have d2 : decide ((2 : Int) ≤ (l.length : Int)) = true := decide_eq_true (by omega)
    have d2n : decide (2 ≤ l.length) = true := decide_eq_true h2
    have hb1 : (1 : Int) < (l.length : Int) := by omega
    have hz : l[1]'(by omega) = d := by simp [hL]
    obtain ⟨y, hy⟩ : ∃ y, d.toNat = y := ⟨_, rfl⟩
    have hy2 : y < 256 := by rw [← hy]; exact UInt8.toNat_lt _
    by_cases hq : y = 34 ∨ y = 92
    · have HR : Hid (rdV l = .tuple #[.int .u8 (y : Int), .int .i64 2]) := Lib.hid (by
        unfold rdV
        rw [hL]
        unfold rdE
        dsimp only
        rw [hy, if_pos hq]
        rfl)
      have HQ : Hid (esN y = true) := Lib.hid (by unfold esN; rcases hq with h | h <;> simp [h])
      clear hq hL
      go_enter Tryd.func68, Tryd.ntmps68
      go_wp2_with fail
      refine (escaped_any _ hy2 _).mono ?_
      rintro e w' ⟨rfl, rfl⟩
      rw [HQ.out]
      go_wp2_with fail
      go_ret2
      exact ⟨by rw [HR.out]; rfl, Below.refl _ _⟩
    · have HQ : Hid (esN y = false) := Lib.hid (by unfold esN; simp only [Bool.or_eq_false_iff, beq_eq_false_iff_ne]; omega)
      by_cases h4 : 4 ≤ l.length
      · obtain ⟨e, f, r4, rfl⟩ : ∃ e f r4, r = e :: f :: r4 := by
          rw [hL] at h4
          match r, h4 with
          | e :: f :: r4, _ => exact ⟨e, f, r4, rfl⟩
        have d4 : decide ((4 : Int) ≤ (l.length : Int)) = true := decide_eq_true (by omega)
        have d4n : decide (4 ≤ l.length) = true := decide_eq_true h4
        have hb4 : (4 : Int) ≤ (l.length : Int) := by omega
        have hrd : rdE l = if y = 120 ∧ 0 ≤ hexB e ∧ 0 ≤ hexB f then (16 * (hexB e).toNat + (hexB f).toNat, 4) else (0, 0) := by
          rw [hL]
          unfold rdE
          dsimp only
          rw [hy, if_neg hq]
        by_cases h120 : y = 120
        · have e1 : ((y : Int) == 120) = true := by rw [beq_iff_eq]; omega
          have e1n : (y == 120) = true := by rw [beq_iff_eq]; exact h120
          have hex : (ByteArray.mk l.toArray).extract 2 4 = ⟨[e, f].toArray⟩ := by
            rw [show (4 : Nat) = 2 + 2 from rfl, ba_cutn, hL]
            rfl
          have htwo := hx_two e f
          cases hx : hxF [e, f] 0 with
          | none =>
            have HR : Hid (rdV l = .tuple #[.int .u8 0, .int .i64 0]) := Lib.hid (by
              rw [hx] at htwo
              unfold rdV
              rw [hrd, if_neg]
              · rfl
              · rintro ⟨-, h⟩
                rw [if_pos h] at htwo
                cases htwo)
            have HX := Lib.hid hx
            have HT := Lib.hid hT
            clear hq hL hrd htwo h120 hx hT
            go_enter Tryd.func68, Tryd.ntmps68
            go_wp2_with fail
            refine (escaped_any _ hy2 _).mono ?_
            rintro e w' ⟨rfl, rfl⟩
            rw [HQ.out]
            go_wp2_with fail
            refine (pub16_none [e, f] rfl HX.out _ HT.out).mono ?_
            rintro e w1 ⟨⟨p, rfl⟩, hb⟩
            go_wp2_with fail
            go_ret2
            exact ⟨by rw [HR.out]; rfl, hb⟩
          | some n =>
            have hn : n < 256 := by have := hxF_bound [e, f] 0 n 1 hx (Nat.le_refl _); simp at this; omega
            have HR : Hid (rdV l = .tuple #[.int .u8 (n : Int), .int .i64 4]) := Lib.hid (by
              rw [hx] at htwo
              unfold rdV
              rw [hrd]
              by_cases h : 0 ≤ hexB e ∧ 0 ≤ hexB f
              · rw [if_pos h] at htwo
                rw [if_pos ⟨h120, h⟩]
                injection htwo with htwo
                rw [htwo]
                rfl
              · rw [if_neg h] at htwo
                cases htwo)
            have q1 : IntKind.u8.wrap (n : Int) = (n : Int) := wrap8 hn
            have HX := Lib.hid hx
            clear hq hL hrd htwo h120 hx
            go_enter Tryd.func68, Tryd.ntmps68
            go_wp2_with fail
            refine (escaped_any _ hy2 _).mono ?_
            rintro e w' ⟨rfl, rfl⟩
            rw [HQ.out]
            go_wp2_with fail
            refine (pub16_some [e, f] rfl n HX.out _).mono ?_
            rintro e w1 ⟨rfl, hb⟩
            go_wp2_with fail
            go_ret2
            exact ⟨by rw [HR.out]; rfl, hb⟩
        · have e1 : ((y : Int) == 120) = false := by rw [beq_eq_false_iff_ne]; omega
          have e1n : (y == 120) = false := by rw [beq_eq_false_iff_ne]; exact h120
          have HR : Hid (rdV l = .tuple #[.int .u8 0, .int .i64 0]) := Lib.hid (by
            unfold rdV
            rw [hrd, if_neg (fun h => h120 h.1)]
            rfl)
          clear hq hL hrd h120
          go_enter Tryd.func68, Tryd.ntmps68
          go_wp2_with fail
          refine (escaped_any _ hy2 _).mono ?_
          rintro e w' ⟨rfl, rfl⟩
          rw [HQ.out]
          go_wp2_with fail
          go_ret2
          exact ⟨by rw [HR.out]; rfl, Below.refl _ _⟩
      · have d4 : decide ((4 : Int) ≤ (l.length : Int)) = false := decide_eq_false (by omega)
        have d4n : decide (4 ≤ l.length) = false := decide_eq_false h4
        have HR : Hid (rdV l = .tuple #[.int .u8 0, .int .i64 0]) := Lib.hid (by
          unfold rdV
          rw [hL] at h4 ⊢
          unfold rdE
          dsimp only
          rw [hy, if_neg hq]
          match r, h4 with
          | [], _ => rfl
          | [_], _ => rfl
          | _ :: _ :: _, h => exact absurd (by simp) h)
        clear hq hL h4
        go_enter Tryd.func68, Tryd.ntmps68
        go_wp2_with fail
        refine (escaped_any _ hy2 _).mono ?_
        rintro e w' ⟨rfl, rfl⟩
        rw [HQ.out]
        go_wp2_with fail
        go_ret2
        exact ⟨by rw [HR.out]; rfl, Below.refl _ _⟩
  · have d2 : decide ((2 : Int) ≤ (l.length : Int)) = false := decide_eq_false (by omega)
    have d2n : decide (2 ≤ l.length) = false := decide_eq_false h2
    have d4 : decide ((4 : Int) ≤ (l.length : Int)) = false := decide_eq_false (by omega)
    have d4n : decide (4 ≤ l.length) = false := decide_eq_false (by omega)
    have HR : Hid (rdV l = .tuple #[.int .u8 0, .int .i64 0]) := Lib.hid (by
      unfold rdV
      match l, h2 with
      | [], _ => rfl
      | [_], _ => rfl
      | _ :: _ :: _, h => exact absurd (by simp) h)
    clear h2
    go_enter Tryd.func68, Tryd.ntmps68
    go_wp2_with fail
    go_ret2
    exact ⟨by rw [HR.out]; rfl, Below.refl _ _⟩
end Go.Proofs.YtacceiloggnekaaDoor
