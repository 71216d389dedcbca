/-
  The program's Digit, and its leading, isNumber, value and read for strings and for slices of bytes; Dec, Hex and Prefix.
-/
import Derived.Test.YtekbahpobhjobaaDoorNRead
import Derived.Test.YtekbahpobhjobaaDoorNLay
import Derived.Test.YtekbahpobhjobaaDoorICells
namespace Go.Proofs.YtekbahpobhjobaaDoor
open Go.RowKit
attribute [local go_sem] ba_get
set_option maxHeartbeats 1000000 in
theorem digit_eq (n : Nat) (hn : n < 256) (hex : Bool) (w : World) :
    Calls Tryd.prog 20 #[.int .u8 (n : Int), .bool hex] w fun e w' => e = .returned (digitV hex n) ∧ w = w' := by
  have h : (48 ≤ n ∧ n ≤ 57) ∨ (97 ≤ n ∧ n ≤ 102) ∨ (65 ≤ n ∧ n ≤ 70) ∨ n < 48 ∨ (57 < n ∧ n < 65) ∨ (70 < n ∧ n < 97) ∨ 102 < n := by omega
  obtain ⟨v, hv⟩ : ∃ v, digitV hex n = v := ⟨_, rfl⟩
  rw [hv]
  have q1 : 48 ≤ n → n ≤ 57 → IntKind.u8.wrap ((n : Int) - 48) = (n : Int) - 48 := by intros; simp only [IntKind.wrap, IntKind.bits, IntKind.signed]; simp; omega
  have q2 : 97 ≤ n → n ≤ 102 → IntKind.u8.wrap ((n : Int) - 97) = (n : Int) - 97 := by intros; simp only [IntKind.wrap, IntKind.bits, IntKind.signed]; simp; omega
  have q3 : 65 ≤ n → n ≤ 70 → IntKind.u8.wrap ((n : Int) - 65) = (n : Int) - 65 := by intros; simp only [IntKind.wrap, IntKind.bits, IntKind.signed]; simp; omega
  have q4 : 48 ≤ n → n ≤ 57 → IntKind.i64.wrap ((n : Int) - 48) = (n : Int) - 48 := by intros; simp only [IntKind.wrap, IntKind.bits, IntKind.signed]; simp; omega
  have q5 : 97 ≤ n → n ≤ 102 → IntKind.i64.wrap ((n : Int) - 97) = (n : Int) - 97 := by intros; simp only [IntKind.wrap, IntKind.bits, IntKind.signed]; simp; omega
  have q6 : 65 ≤ n → n ≤ 70 → IntKind.i64.wrap ((n : Int) - 65) = (n : Int) - 65 := by intros; simp only [IntKind.wrap, IntKind.bits, IntKind.signed]; simp; omega
  have q7 : 97 ≤ n → n ≤ 102 → IntKind.i64.wrap ((n : Int) - 97 + 10) = (n : Int) - 97 + 10 := by intros; simp only [IntKind.wrap, IntKind.bits, IntKind.signed]; simp; omega
  have q8 : 65 ≤ n → n ≤ 70 → IntKind.i64.wrap ((n : Int) - 65 + 10) = (n : Int) - 65 + 10 := by intros; simp only [IntKind.wrap, IntKind.bits, IntKind.signed]; simp; omega
  cases hex
  all_goals
    rcases h with h | h | h | h | h | h | h
    all_goals
      unfold digitV valN at hv
      first
        | (rw [if_pos (by omega : 48 ≤ n ∧ n ≤ 57), if_neg (by omega)] at hv)
        | (rw [if_neg (by omega : ¬ (48 ≤ n ∧ n ≤ 57)), if_pos (⟨rfl, by omega⟩ : true = true ∧ 97 ≤ n ∧ n ≤ 102), if_neg (by omega)] at hv)
        | (rw [if_neg (by omega : ¬ (48 ≤ n ∧ n ≤ 57)), if_neg (fun h => by have := h.2; omega : ¬ (true = true ∧ 97 ≤ n ∧ n ≤ 102)), if_pos (⟨rfl, by omega⟩ : true = true ∧ 65 ≤ n ∧ n ≤ 70), if_neg (by omega)] at hv)
        | (rw [if_neg (by omega : ¬ (48 ≤ n ∧ n ≤ 57)), if_neg (fun h => by have := h.2; omega : ¬ (true = true ∧ 97 ≤ n ∧ n ≤ 102)), if_neg (fun h => by have := h.2; omega : ¬ (true = true ∧ 65 ≤ n ∧ n ≤ 70)), if_pos (by omega)] at hv)
        | (rw [if_neg (by omega : ¬ (48 ≤ n ∧ n ≤ 57)), if_neg (by simp : ¬ (false = true ∧ 97 ≤ n ∧ n ≤ 102)), if_neg (by simp : ¬ (false = true ∧ 65 ≤ n ∧ n ≤ 70)), if_pos (by omega)] at hv)
      have HV2 := Lib.hid hv
      clear hv
      first | have a3 : decide ((48 : Int) ≤ (n : Int)) = true := decide_eq_true (by omega) | have a3 : decide ((48 : Int) ≤ (n : Int)) = false := decide_eq_false (by omega)
      first | have a4 : decide ((n : Int) ≤ 57) = true := decide_eq_true (by omega) | have a4 : decide ((n : Int) ≤ 57) = false := decide_eq_false (by omega)
      first | have a1 : decide ((97 : Int) ≤ (n : Int)) = true := decide_eq_true (by omega) | have a1 : decide ((97 : Int) ≤ (n : Int)) = false := decide_eq_false (by omega)
      first | have a2 : decide ((n : Int) ≤ 102) = true := decide_eq_true (by omega) | have a2 : decide ((n : Int) ≤ 102) = false := decide_eq_false (by omega)
      first | have a5 : decide ((65 : Int) ≤ (n : Int)) = true := decide_eq_true (by omega) | have a5 : decide ((65 : Int) ≤ (n : Int)) = false := decide_eq_false (by omega)
      first | have a6 : decide ((n : Int) ≤ 70) = true := decide_eq_true (by omega) | have a6 : decide ((n : Int) ≤ 70) = false := decide_eq_false (by omega)
      first | (have b1 := q1 (by omega) (by omega); have b2 := q4 (by omega) (by omega); clear q1 q2 q3 q4 q5 q6 q7 q8) | (have b1 := q2 (by omega) (by omega); have b2 := q5 (by omega) (by omega); have b3 := q7 (by omega) (by omega); clear q1 q2 q3 q4 q5 q6 q7 q8) | (have b1 := q3 (by omega) (by omega); have b2 := q6 (by omega) (by omega); have b3 := q8 (by omega) (by omega); clear q1 q2 q3 q4 q5 q6 q7 q8) | clear q1 q2 q3 q4 q5 q6 q7 q8
      go_enter Tryd.func20, Tryd.ntmps20
      go_wp2_with fail
      go_ret2
      refine ⟨?_, rfl⟩
      rw [← HV2.out]
      first
        | rfl
        | (rw [show (n : Int) - 97 + 10 = (n : Int) - 87 by omega]; rfl)
        | (rw [show (n : Int) - 65 + 10 = (n : Int) - 55 by omega]; rfl)
/-- What Digit answers of a byte that is a digit, and of one that is none. -/
theorem digitV_yes {hex : Bool} {b : UInt8} (h : isD hex b = true) : digitV hex b.toNat = .tuple #[.int .i64 (digN hex b : Int), .int .i64 0] := by
  unfold digitV
  have := valN_yes h
  rw [if_neg (by omega), this]
theorem digitV_no {hex : Bool} {b : UInt8} (h : isD hex b = false) : digitV hex b.toNat = .tuple #[.int .i64 0, .int .i64 3] := by
  unfold digitV
  have := valN_no h
  rw [if_pos (by omega)]
/-- The bytes of a slice. -/
def byteC (l : List UInt8) (j : Nat) : Value := .int .u8 ((l.getD j 0).toNat : Int)
/-- Is it no number? -/
def badH (hex : Bool) (e : List UInt8) : Bool := decide (e.length = 0 ∨ prefF hex e < e.length)
/-- n times b, and d: what Mul64 and Add64 say of it. -/
theorem mul_add_ok {n b d : Nat} (h : n * b + d < U64) : n * b / 18446744073709551616 = 0 ∧ n * b % 18446744073709551616 = n * b ∧ (n * b % 18446744073709551616 + d + 0) / 18446744073709551616 = 0 ∧ (n * b % 18446744073709551616 + d + 0) % 18446744073709551616 = n * b + d := by
  unfold U64 at h
  generalize n * b = z at h ⊢
  refine ⟨?_, ?_, ?_, ?_⟩ <;> omega
theorem mul_add_not {n b d m : Nat} (h : ¬ n * b + d ≤ m) (h1 : n * b / 18446744073709551616 = 0) (h2 : (n * b % 18446744073709551616 + d + 0) / 18446744073709551616 = 0) : m < (n * b % 18446744073709551616 + d + 0) % 18446744073709551616 := by
  generalize n * b = z at h h1 h2 ⊢
  omega
set_option maxHeartbeats 1000000 in
theorem str_leading (l : List UInt8) (hl : l.length < 1000000) (hex : Bool) (w : World) :
    Calls Tryd.prog 28 #[.string ⟨l.toArray⟩, .bool hex] w fun e w' => e = .returned (.int .i64 (prefF hex l : Nat)) ∧ w = w' := by
  obtain ⟨R, hR⟩ : ∃ R, prefF hex l = R := ⟨_, rfl⟩
  rw [hR]
  go_enter Tryd.func28, Tryd.ntmps28
  go_wp2_with fail
  go_loopw [10] (fun i wr => ∃ k : Nat, k ≤ l.length ∧ i = .int .i64 k ∧ Hid (k + prefF hex (l.drop k) = R) ∧ wr = w) (fun i _ => l.length - (intOf i).toNat)
  case atStart => exact ⟨0, Nat.zero_le _, rfl, Lib.hid (by rw [List.drop_zero, hR, Nat.zero_add]), rfl⟩
  case round =>
    obtain ⟨k, hk, rfl, hp, rfl⟩ := hrel
    by_cases hlt : k < l.length
    · have h1 : decide ((k : Int) < (l.length : Int)) = true := decide_eq_true (by omega)
      have hb2 : (k : Int) < (l.length : Int) := by omega
      have hat := prefF_at (hex := hex) hlt
      cases hd : isD hex l[k]
      · have hv := Lib.hid (digitV_no hd)
        rw [hd] at hat
        have hres : Hid (R = k) := Lib.hid (by rw [← hp.out, hat]; rfl)
        clear hat hd
        obtain ⟨y, hy⟩ : ∃ y, (l[k]).toNat = y := ⟨_, rfl⟩
        have hy2 : y < 256 := by rw [← hy]; exact UInt8.toNat_lt _
        rw [hy] at hv
        go_wp2_with fail
        refine (digit_eq y hy2 hex _).mono ?_
        rintro e w' ⟨rfl, rfl⟩
        rw [hv.out]
        go_wp2_with fail
        go_ret
        exact ⟨by rw [hres.out]; rfl, rfl⟩
      · have hv := Lib.hid (digitV_yes hd)
        rw [hd] at hat
        have hnext : Hid (k + 1 + prefF hex (l.drop (k + 1)) = R) := Lib.hid (by rw [← hp.out, hat]; simp; omega)
        clear hat hd
        obtain ⟨v, hv2⟩ : ∃ v, digN hex l[k] = v := ⟨_, rfl⟩
        rw [hv2] at hv
        clear hv2
        obtain ⟨y, hy⟩ : ∃ y, (l[k]).toNat = y := ⟨_, rfl⟩
        have hy2 : y < 256 := by rw [← hy]; exact UInt8.toNat_lt _
        rw [hy] at hv
        go_wp2_with fail
        refine (digit_eq y hy2 hex _).mono ?_
        rintro e w' ⟨rfl, rfl⟩
        rw [hv.out]
        go_wp2_with fail
        go_roundw
        case rel => exact ⟨k + 1, by omega, by go_num, hnext, by simp⟩
        case measure => simp [intOf]; omega
    · have h1 : decide ((k : Int) < (l.length : Int)) = false := decide_eq_false (by omega)
      have hres : Hid (R = l.length) := Lib.hid (by rw [← hp.out, List.drop_eq_nil_of_le (by omega)]; show k + 0 = _; omega)
      go_wp2_with fail
      go_ret
      exact ⟨by rw [hres.out]; rfl, rfl⟩
set_option maxHeartbeats 1000000 in
theorem str_isNumber (l : List UInt8) (hl : l.length < 1000000) (hex : Bool) (w : World) :
    Calls Tryd.prog 38 #[.string ⟨l.toArray⟩, .bool hex] w fun e w' => e = .returned (.bool (!(badH hex l))) ∧ w = w' := by
  have hle := prefF_le hex l
  obtain ⟨pf, hpf⟩ : ∃ pf, prefF hex l = pf := ⟨_, rfl⟩
  have HP := Lib.hid hpf
  rw [hpf] at hle
  by_cases h0 : l.length = 0
  · have hres : Hid (badH hex l = true) := Lib.hid (by unfold badH; exact decide_eq_true (Or.inl h0))
    have d0 : decide ((0 : Int) < (l.length : Int)) = false := decide_eq_false (by omega)
    have d0n : decide (0 < l.length) = false := decide_eq_false (by omega)
    clear hpf h0
    go_enter Tryd.func38, Tryd.ntmps38
    go_wp2_with fail
    go_ret
    exact ⟨by rw [hres.out]; rfl, rfl⟩
  · have d0 : decide ((0 : Int) < (l.length : Int)) = true := decide_eq_true (by omega)
    have d0n : decide (0 < l.length) = true := decide_eq_true (by omega)
    have d0p : 0 < l.length := by omega
    by_cases h1 : pf < l.length
    · have hres : Hid (badH hex l = true) := Lib.hid (by unfold badH; exact decide_eq_true (Or.inr (by rw [hpf]; exact h1)))
      have d1 : ((pf : Int) == (l.length : Int)) = false := by rw [beq_eq_false_iff_ne]; omega
      clear hpf h0
      go_enter Tryd.func38, Tryd.ntmps38
      go_wp2_with fail
      refine (str_leading l hl  hex _).mono ?_
      rintro e w' ⟨rfl, rfl⟩
      rw [HP.out]
      go_wp2_with fail
      go_ret
      exact ⟨by rw [hres.out]; rfl, rfl⟩
    · have hres : Hid (badH hex l = false) := Lib.hid (by unfold badH; exact decide_eq_false (by rw [hpf]; omega))
      have d1 : ((pf : Int) == (l.length : Int)) = true := by rw [beq_iff_eq]; omega
      clear hpf h0
      go_enter Tryd.func38, Tryd.ntmps38
      go_wp2_with fail
      refine (str_leading l hl  hex _).mono ?_
      rintro e w' ⟨rfl, rfl⟩
      rw [HP.out]
      go_wp2_with fail
      go_ret
      exact ⟨by rw [hres.out]; rfl, rfl⟩
set_option maxHeartbeats 4000000 in
theorem str_value (l : List UInt8) (hl : l.length < 1000000) (hex : Bool) (most : Nat) (hmost : most < U64) (hall : prefF hex l = l.length) (w : World) :
    Calls Tryd.prog 39 #[.string ⟨l.toArray⟩, .bool hex, .int .u64 (most : Int)] w fun e w' => e = .returned (.tuple #[.int .u64 ((if most < numL hex l then 0 else numL hex l : Nat) : Int), .int .i64 ((if most < numL hex l then 2 else 0 : Nat) : Int)]) ∧ w = w' := by
  obtain ⟨V, hV⟩ : ∃ V, numL hex l = V := ⟨_, rfl⟩
  rw [hV]
  have HA := Lib.hid (prefF_all (hex := hex) (l := l) hall)
  have HV := Lib.hid hV
  obtain ⟨b, hb⟩ : ∃ b, baseN hex = b := ⟨_, rfl⟩
  have hb1 : 2 ≤ b ∧ b ≤ 16 := by rw [← hb]; unfold baseN; split <;> omega
  have HB := Lib.hid hb
  have HM := Lib.hid hmost
  obtain ⟨r1, hr1⟩ : ∃ r : Nat, (if most < V then 0 else V) = r := ⟨_, rfl⟩
  obtain ⟨r2, hr2⟩ : ∃ r : Nat, (if most < V then 2 else 0) = r := ⟨_, rfl⟩
  rw [hr1, hr2]
  have HR1 := Lib.hid hr1
  have HR2 := Lib.hid hr2
  clear hall hV hmost hr1 hr2
  go_enter Tryd.func39, Tryd.ntmps39
  go_upto_if 17 with fail
  go_cut [8] (fun p wx => p = .int .u64 (b : Int) ∧ w = wx)
  case first =>
    cases hex
    · have hb2 : Hid (b = 10) := Lib.hid hb.symm
      clear hb
      go_wp2_with fail
      go_meet
      exact ⟨by rw [hb2.out]; rfl, rfl⟩
    · have hb2 : Hid (b = 16) := Lib.hid hb.symm
      clear hb
      go_wp2_with fail
      go_meet
      exact ⟨by rw [hb2.out]; rfl, rfl⟩
  case rest =>
  obtain ⟨rfl, rfl⟩ := hcut
  clear hb
  go_wp2_with fail
  go_loopw [9, 20] (fun v i wr => ∃ k n : Nat, k ≤ l.length ∧ i = .int .i64 k ∧ v = .int .u64 (n : Int) ∧ n ≤ most ∧ Hid (numF hex (l.drop k) n = V) ∧ w = wr) (fun _ i _ => l.length - (intOf i).toNat)
  case atStart => exact ⟨0, 0, Nat.zero_le _, rfl, rfl, Nat.zero_le _, Lib.hid (by rw [List.drop_zero]; exact HV.out), rfl⟩
  case round =>
  obtain ⟨k, n, hk, rfl, rfl, hn, hp, rfl⟩ := hrel
  by_cases hlt : k < l.length
  · have e1 : decide ((k : Int) < (l.length : Int)) = true := decide_eq_true (by omega)
    have hb2 : (k : Int) < (l.length : Int) := by omega
    have hat := numF_at (hex := hex) (n := n) hlt
    have hv := Lib.hid (digitV_yes (HA.out k hlt))
    have hdl := digN_lt hex l[k]
    rw [HB.out] at hat hdl
    obtain ⟨d, hd⟩ : ∃ d, digN hex l[k] = d := ⟨_, rfl⟩
    rw [hd] at hat hdl hv
    have hat := Lib.hid hat
    clear hd
    obtain ⟨y, hy⟩ : ∃ y, (l[k]).toNat = y := ⟨_, rfl⟩
    have hy2 : y < 256 := by rw [← hy]; exact UInt8.toNat_lt _
    rw [hy] at hv
    have q1 : IntKind.u64.wrap (d : Int) = (d : Int) := wrapU (by unfold U64; omega)
    have hnU : n < U64 := Nat.lt_of_le_of_lt hn HM.out
    have hbU : b < U64 := by unfold U64; omega
    by_cases hle : n * b + d ≤ most
    · obtain ⟨m1, m2, m3, m4⟩ := mul_add_ok (n := n) (b := b) (d := d) (Nat.lt_of_le_of_lt hle HM.out)
      obtain ⟨z, hz⟩ : ∃ z, n * b = z := ⟨_, rfl⟩
      rw [m2] at m3 m4
      have hadd := fun W => add64_run z d W
      rw [hz] at m1 m2 m3 m4 hle
      rw [m3, m4] at hadd
      have hnext : Hid (numF hex (l.drop (k + 1)) (z + d) = V) := Lib.hid (by rw [← hz, ← hat.out]; exact hp.out)
      have M1 := Lib.hid m1
      have M2 := Lib.hid m2
      have HZ := Lib.hid hz
      have g1 : decide ((most : Int) < ((z + d : Nat) : Int)) = false := decide_eq_false (by omega)
      obtain ⟨x, hx⟩ : ∃ x, z + d = x := ⟨_, rfl⟩
      rw [hx] at hnext hadd g1 hle
      clear m1 m2 m3 m4 hz hx
      go_wp2_with fail
      refine (digit_eq y hy2 hex _).mono ?_
      rintro e w' ⟨rfl, rfl⟩
      rw [hv.out]
      go_wp2_with fail
      refine (mul64_any n b hnU hbU _).mono ?_
      rintro e w' ⟨rfl, rfl⟩
      rw [HZ.out, M1.out, M2.out]
      go_wp2_with fail
      go_roundw
      case rel => exact ⟨k + 1, x, by omega, by go_num, by go_num, hle, hnext, by simp⟩
      case measure => simp [intOf]; omega
    · have hbig : most < V := by
        have h2 := numF_le hex (l.drop (k + 1)) (n * b + d)
        rw [← hat.out, hp.out] at h2
        omega
      have hres1 : Hid (r1 = 0) := Lib.hid (by rw [← HR1.out, if_pos hbig])
      have hres2 : Hid (r2 = 2) := Lib.hid (by rw [← HR2.out, if_pos hbig])
      have hnot := mul_add_not (n := n) (b := b) (d := d) (m := most) hle
      have hadd := fun W => add64_run (n * b % 18446744073709551616) d W
      obtain ⟨ov, hov⟩ : ∃ ov, n * b / 18446744073709551616 = ov := ⟨_, rfl⟩
      obtain ⟨sh, hsh⟩ : ∃ sh, n * b % 18446744073709551616 = sh := ⟨_, rfl⟩
      rw [hsh] at hadd
      rw [hov, hsh] at hnot
      obtain ⟨ca, hca⟩ : ∃ ca, (sh + d + 0) / 18446744073709551616 = ca := ⟨_, rfl⟩
      obtain ⟨su, hsu⟩ : ∃ su, (sh + d + 0) % 18446744073709551616 = su := ⟨_, rfl⟩
      rw [hca, hsu] at hadd
      rw [hca, hsu] at hnot
      have HOV := Lib.hid hov
      have HSH := Lib.hid hsh
      clear hbig hov hsh hca hsu hle hat
      by_cases c1 : ov = 0
      · have g1 : ((ov : Int) != 0) = false := by simp [c1]
        by_cases c2 : ca = 0
        · have g2 : ((ca : Int) != 0) = false := by simp [c2]
          have g3 : decide ((most : Int) < (su : Int)) = true := decide_eq_true (by have := hnot c1 c2; omega)
          have g3p : most < su := hnot c1 c2
          have g3n : decide (most < su) = true := decide_eq_true g3p
          clear hnot c1 c2
          go_wp2_with fail
          refine (digit_eq y hy2 hex _).mono ?_
          rintro e w' ⟨rfl, rfl⟩
          rw [hv.out]
          go_wp2_with fail
          refine (mul64_any n b hnU hbU _).mono ?_
          rintro e w' ⟨rfl, rfl⟩
          rw [HOV.out, HSH.out]
          go_wp2_with fail
          go_ret2
          exact ⟨by rw [hres1.out, hres2.out]; rfl, rfl⟩
        · have g2 : ((ca : Int) != 0) = true := by simp [c2]
          clear hnot c1 c2
          go_wp2_with fail
          refine (digit_eq y hy2 hex _).mono ?_
          rintro e w' ⟨rfl, rfl⟩
          rw [hv.out]
          go_wp2_with fail
          refine (mul64_any n b hnU hbU _).mono ?_
          rintro e w' ⟨rfl, rfl⟩
          rw [HOV.out, HSH.out]
          go_wp2_with fail
          go_ret2
          exact ⟨by rw [hres1.out, hres2.out]; rfl, rfl⟩
      · have g1 : ((ov : Int) != 0) = true := by simp [c1]
        clear hnot c1
        go_wp2_with fail
        refine (digit_eq y hy2 hex _).mono ?_
        rintro e w' ⟨rfl, rfl⟩
        rw [hv.out]
        go_wp2_with fail
        refine (mul64_any n b hnU hbU _).mono ?_
        rintro e w' ⟨rfl, rfl⟩
        rw [HOV.out, HSH.out]
        go_wp2_with fail
        go_ret2
        exact ⟨by rw [hres1.out, hres2.out]; rfl, rfl⟩
  · have e1 : decide ((k : Int) < (l.length : Int)) = false := decide_eq_false (by omega)
    have hnV : V = n := by rw [← hp.out, List.drop_eq_nil_of_le (by omega)]; rfl
    have hres1 : Hid (r1 = n) := Lib.hid (by rw [← HR1.out, hnV, if_neg (by omega)])
    have hres2 : Hid (r2 = 0) := Lib.hid (by rw [← HR2.out, hnV, if_neg (by omega)])
    clear hnV
    go_wp2_with fail
    go_ret2
    exact ⟨by rw [hres1.out, hres2.out]; rfl, rfl⟩
set_option maxHeartbeats 1000000 in
theorem str_read (l : List UInt8) (hl : l.length < 1000000) (hex : Bool) (digits : Int) (most : Nat) (hmost : most < U64) (w : World) :
    Calls Tryd.prog 29 #[.string ⟨l.toArray⟩, .bool hex, .int .i64 digits, .int .u64 (most : Int)] w fun e w' => e = .returned (readV hex l digits most) ∧ w = w' := by
  cases hbad : badH hex l
  · have hgood : ¬ (l.length = 0 ∨ prefF hex l < l.length) := of_decide_eq_false hbad
    have hle := prefF_le hex l
    have hall : Hid (prefF hex l = l.length) := Lib.hid (by omega)
    have HB := Lib.hid hbad
    have HM := Lib.hid hmost
    clear hbad hmost
    by_cases h2 : digits < (l.length : Int)
    · have HR : Hid (readV hex l digits most = .tuple #[.int .u64 0, .int .i64 4]) := Lib.hid (by unfold readV readR; rw [if_neg hgood, if_pos h2]; rfl)
      have d2 : decide (digits < (l.length : Int)) = true := decide_eq_true h2
      clear hgood hle
      go_enter Tryd.func29, Tryd.ntmps29
      go_wp2_with fail
      refine (str_isNumber l hl  hex _).mono ?_
      rintro e w' ⟨rfl, rfl⟩
      rw [HB.out]
      go_wp2_with fail
      go_ret2
      exact ⟨by rw [HR.out]; rfl, rfl⟩
    · have d2 : decide (digits < (l.length : Int)) = false := decide_eq_false h2
      obtain ⟨x, y, hx, hy, HR⟩ : ∃ x y : Nat, Hid ((if most < numL hex l then 0 else numL hex l) = x) ∧ Hid ((if most < numL hex l then 2 else 0) = y) ∧ Hid (readV hex l digits most = .tuple #[.int .u64 (x : Int), .int .i64 (y : Int)]) := by
        refine ⟨_, _, Lib.hid rfl, Lib.hid rfl, Lib.hid ?_⟩
        unfold readV readR
        rw [if_neg hgood, if_neg h2]
        have := HM.out
        by_cases h3 : most < numL hex l
        · rw [if_pos (Or.inr h3), if_pos h3, if_pos h3]
        · rw [if_neg (by omega), if_neg h3, if_neg h3]
      clear hgood hle
      go_enter Tryd.func29, Tryd.ntmps29
      go_wp2_with fail
      refine (str_isNumber l hl  hex _).mono ?_
      rintro e w' ⟨rfl, rfl⟩
      rw [HB.out]
      go_wp2_with fail
      refine (str_value l hl  hex most HM.out hall.out _).mono ?_
      rintro e w' ⟨rfl, rfl⟩
      rw [hx.out, hy.out]
      go_wp2_with fail
      go_ret2
      exact ⟨by rw [HR.out]; rfl, rfl⟩
  · have HR : Hid (readV hex l digits most = .tuple #[.int .u64 0, .int .i64 3]) := Lib.hid (by unfold readV readR; rw [if_pos (of_decide_eq_true hbad)]; rfl)
    have HB := Lib.hid hbad
    clear hbad
    go_enter Tryd.func29, Tryd.ntmps29
    go_wp2_with fail
    refine (str_isNumber l hl  hex _).mono ?_
    rintro e w' ⟨rfl, rfl⟩
    rw [HB.out]
    go_wp2_with fail
    go_ret2
    exact ⟨by rw [HR.out]; rfl, rfl⟩
set_option maxHeartbeats 1000000 in
theorem by_leading (l : List UInt8) (hl : l.length < 1000000) (p : Option Addr) (cap : Nat) (hex : Bool) (w : World) (hc : CellsIn w p l.length (byteC l)) :
    Calls Tryd.prog 41 #[.slice p l.length cap, .bool hex] w fun e w' => e = .returned (.int .i64 (prefF hex l : Nat)) ∧ w = w' := by
  obtain ⟨R, hR⟩ : ∃ R, prefF hex l = R := ⟨_, rfl⟩
  rw [hR]
  have HC : Hid (CellsIn w p l.length (byteC l)) := hc
  clear hc
  go_enter Tryd.func41, Tryd.ntmps41
  go_wp2_with fail
  go_loopw [10] (fun i wr => ∃ k : Nat, k ≤ l.length ∧ i = .int .i64 k ∧ Hid (k + prefF hex (l.drop k) = R) ∧ wr = w) (fun i _ => l.length - (intOf i).toNat)
  case atStart => exact ⟨0, Nat.zero_le _, rfl, Lib.hid (by rw [List.drop_zero, hR, Nat.zero_add]), rfl⟩
  case round =>
    obtain ⟨k, hk, rfl, hp, rfl⟩ := hrel
    by_cases hlt : k < l.length
    · have h1 : decide ((k : Int) < (l.length : Int)) = true := decide_eq_true (by omega)
      have hb2 : (k : Int) < (l.length : Int) := by omega
      have hat := prefF_at (hex := hex) hlt
      obtain ⟨cb, off, rfl, hbw, hcell⟩ := HC.out k hlt
      rw [show byteC l k = .int .u8 ((l[k]).toNat : Int) by unfold byteC; rw [List.getD_eq_getElem?_getD, List.getElem?_eq_getElem hlt]; rfl] at hcell
      cases hd : isD hex l[k]
      · have hv := Lib.hid (digitV_no hd)
        rw [hd] at hat
        have hres : Hid (R = k) := Lib.hid (by rw [← hp.out, hat]; rfl)
        clear hat hd
        obtain ⟨y, hy⟩ : ∃ y, (l[k]).toNat = y := ⟨_, rfl⟩
        have hy2 : y < 256 := by rw [← hy]; exact UInt8.toNat_lt _
        rw [hy] at hv hcell
        go_wp2_with fail
        refine (digit_eq y hy2 hex _).mono ?_
        rintro e w' ⟨rfl, rfl⟩
        rw [hv.out]
        go_wp2_with fail
        go_ret
        exact ⟨by rw [hres.out]; rfl, rfl⟩
      · have hv := Lib.hid (digitV_yes hd)
        rw [hd] at hat
        have hnext : Hid (k + 1 + prefF hex (l.drop (k + 1)) = R) := Lib.hid (by rw [← hp.out, hat]; simp; omega)
        clear hat hd
        obtain ⟨v, hv2⟩ : ∃ v, digN hex l[k] = v := ⟨_, rfl⟩
        rw [hv2] at hv
        clear hv2
        obtain ⟨y, hy⟩ : ∃ y, (l[k]).toNat = y := ⟨_, rfl⟩
        have hy2 : y < 256 := by rw [← hy]; exact UInt8.toNat_lt _
        rw [hy] at hv hcell
        go_wp2_with fail
        refine (digit_eq y hy2 hex _).mono ?_
        rintro e w' ⟨rfl, rfl⟩
        rw [hv.out]
        go_wp2_with fail
        go_roundw
        case rel => exact ⟨k + 1, by omega, by go_num, hnext, by simp⟩
        case measure => simp [intOf]; omega
    · have h1 : decide ((k : Int) < (l.length : Int)) = false := decide_eq_false (by omega)
      have hres : Hid (R = l.length) := Lib.hid (by rw [← hp.out, List.drop_eq_nil_of_le (by omega)]; show k + 0 = _; omega)
      go_wp2_with fail
      go_ret
      exact ⟨by rw [hres.out]; rfl, rfl⟩
set_option maxHeartbeats 1000000 in
theorem by_isNumber (l : List UInt8) (hl : l.length < 1000000) (p : Option Addr) (cap : Nat) (hex : Bool) (w : World) (hc : CellsIn w p l.length (byteC l)) :
    Calls Tryd.prog 32 #[.slice p l.length cap, .bool hex] w fun e w' => e = .returned (.bool (!(badH hex l))) ∧ w = w' := by
  have hle := prefF_le hex l
  obtain ⟨pf, hpf⟩ : ∃ pf, prefF hex l = pf := ⟨_, rfl⟩
  have HP := Lib.hid hpf
  rw [hpf] at hle
  have HC : Hid (CellsIn w p l.length (byteC l)) := hc
  clear hc
  by_cases h0 : l.length = 0
  · have hres : Hid (badH hex l = true) := Lib.hid (by unfold badH; exact decide_eq_true (Or.inl h0))
    have d0 : decide ((0 : Int) < (l.length : Int)) = false := decide_eq_false (by omega)
    have d0n : decide (0 < l.length) = false := decide_eq_false (by omega)
    clear hpf h0
    go_enter Tryd.func32, Tryd.ntmps32
    go_wp2_with fail
    go_ret
    exact ⟨by rw [hres.out]; rfl, rfl⟩
  · have d0 : decide ((0 : Int) < (l.length : Int)) = true := decide_eq_true (by omega)
    have d0n : decide (0 < l.length) = true := decide_eq_true (by omega)
    have d0p : 0 < l.length := by omega
    by_cases h1 : pf < l.length
    · have hres : Hid (badH hex l = true) := Lib.hid (by unfold badH; exact decide_eq_true (Or.inr (by rw [hpf]; exact h1)))
      have d1 : ((pf : Int) == (l.length : Int)) = false := by rw [beq_eq_false_iff_ne]; omega
      clear hpf h0
      go_enter Tryd.func32, Tryd.ntmps32
      go_wp2_with fail
      refine (by_leading l hl p cap hex _ HC.out).mono ?_
      rintro e w' ⟨rfl, rfl⟩
      rw [HP.out]
      go_wp2_with fail
      go_ret
      exact ⟨by rw [hres.out]; rfl, rfl⟩
    · have hres : Hid (badH hex l = false) := Lib.hid (by unfold badH; exact decide_eq_false (by rw [hpf]; omega))
      have d1 : ((pf : Int) == (l.length : Int)) = true := by rw [beq_iff_eq]; omega
      clear hpf h0
      go_enter Tryd.func32, Tryd.ntmps32
      go_wp2_with fail
      refine (by_leading l hl p cap hex _ HC.out).mono ?_
      rintro e w' ⟨rfl, rfl⟩
      rw [HP.out]
      go_wp2_with fail
      go_ret
      exact ⟨by rw [hres.out]; rfl, rfl⟩
set_option maxHeartbeats 4000000 in
theorem by_value (l : List UInt8) (hl : l.length < 1000000) (p : Option Addr) (cap : Nat) (hex : Bool) (most : Nat) (hmost : most < U64) (hall : prefF hex l = l.length) (w : World) (hc : CellsIn w p l.length (byteC l)) :
    Calls Tryd.prog 42 #[.slice p l.length cap, .bool hex, .int .u64 (most : Int)] w fun e w' => e = .returned (.tuple #[.int .u64 ((if most < numL hex l then 0 else numL hex l : Nat) : Int), .int .i64 ((if most < numL hex l then 2 else 0 : Nat) : Int)]) ∧ w = w' := by
  obtain ⟨V, hV⟩ : ∃ V, numL hex l = V := ⟨_, rfl⟩
  rw [hV]
  have HA := Lib.hid (prefF_all (hex := hex) (l := l) hall)
  have HV := Lib.hid hV
  obtain ⟨b, hb⟩ : ∃ b, baseN hex = b := ⟨_, rfl⟩
  have hb1 : 2 ≤ b ∧ b ≤ 16 := by rw [← hb]; unfold baseN; split <;> omega
  have HB := Lib.hid hb
  have HM := Lib.hid hmost
  obtain ⟨r1, hr1⟩ : ∃ r : Nat, (if most < V then 0 else V) = r := ⟨_, rfl⟩
  obtain ⟨r2, hr2⟩ : ∃ r : Nat, (if most < V then 2 else 0) = r := ⟨_, rfl⟩
  rw [hr1, hr2]
  have HR1 := Lib.hid hr1
  have HR2 := Lib.hid hr2
  clear hall hV hmost hr1 hr2
  have HC : Hid (CellsIn w p l.length (byteC l)) := hc
  clear hc
  go_enter Tryd.func42, Tryd.ntmps42
  go_upto_if 17 with fail
  go_cut [8] (fun p wx => p = .int .u64 (b : Int) ∧ w = wx)
  case first =>
    cases hex
    · have hb2 : Hid (b = 10) := Lib.hid hb.symm
      clear hb
      go_wp2_with fail
      go_meet
      exact ⟨by rw [hb2.out]; rfl, rfl⟩
    · have hb2 : Hid (b = 16) := Lib.hid hb.symm
      clear hb
      go_wp2_with fail
      go_meet
      exact ⟨by rw [hb2.out]; rfl, rfl⟩
  case rest =>
  obtain ⟨rfl, rfl⟩ := hcut
  clear hb
  go_wp2_with fail
  go_loopw [9, 20] (fun v i wr => ∃ k n : Nat, k ≤ l.length ∧ i = .int .i64 k ∧ v = .int .u64 (n : Int) ∧ n ≤ most ∧ Hid (numF hex (l.drop k) n = V) ∧ w = wr) (fun _ i _ => l.length - (intOf i).toNat)
  case atStart => exact ⟨0, 0, Nat.zero_le _, rfl, rfl, Nat.zero_le _, Lib.hid (by rw [List.drop_zero]; exact HV.out), rfl⟩
  case round =>
  obtain ⟨k, n, hk, rfl, rfl, hn, hp, rfl⟩ := hrel
  by_cases hlt : k < l.length
  · have e1 : decide ((k : Int) < (l.length : Int)) = true := decide_eq_true (by omega)
    have hb2 : (k : Int) < (l.length : Int) := by omega
    have hat := numF_at (hex := hex) (n := n) hlt
    obtain ⟨cb, off, rfl, hbw, hcell⟩ := HC.out k hlt
    rw [show byteC l k = .int .u8 ((l[k]).toNat : Int) by unfold byteC; rw [List.getD_eq_getElem?_getD, List.getElem?_eq_getElem hlt]; rfl] at hcell
    have hv := Lib.hid (digitV_yes (HA.out k hlt))
    have hdl := digN_lt hex l[k]
    rw [HB.out] at hat hdl
    obtain ⟨d, hd⟩ : ∃ d, digN hex l[k] = d := ⟨_, rfl⟩
    rw [hd] at hat hdl hv
    have hat := Lib.hid hat
    clear hd
    obtain ⟨y, hy⟩ : ∃ y, (l[k]).toNat = y := ⟨_, rfl⟩
    have hy2 : y < 256 := by rw [← hy]; exact UInt8.toNat_lt _
    rw [hy] at hv hcell
    have q1 : IntKind.u64.wrap (d : Int) = (d : Int) := wrapU (by unfold U64; omega)
    have hnU : n < U64 := Nat.lt_of_le_of_lt hn HM.out
    have hbU : b < U64 := by unfold U64; omega
    by_cases hle : n * b + d ≤ most
    · obtain ⟨m1, m2, m3, m4⟩ := mul_add_ok (n := n) (b := b) (d := d) (Nat.lt_of_le_of_lt hle HM.out)
      obtain ⟨z, hz⟩ : ∃ z, n * b = z := ⟨_, rfl⟩
      rw [m2] at m3 m4
      have hadd := fun W => add64_run z d W
      rw [hz] at m1 m2 m3 m4 hle
      rw [m3, m4] at hadd
      have hnext : Hid (numF hex (l.drop (k + 1)) (z + d) = V) := Lib.hid (by rw [← hz, ← hat.out]; exact hp.out)
      have M1 := Lib.hid m1
      have M2 := Lib.hid m2
      have HZ := Lib.hid hz
      have g1 : decide ((most : Int) < ((z + d : Nat) : Int)) = false := decide_eq_false (by omega)
      obtain ⟨x, hx⟩ : ∃ x, z + d = x := ⟨_, rfl⟩
      rw [hx] at hnext hadd g1 hle
      clear m1 m2 m3 m4 hz hx
      go_wp2_with fail
      refine (digit_eq y hy2 hex _).mono ?_
      rintro e w' ⟨rfl, rfl⟩
      rw [hv.out]
      go_wp2_with fail
      refine (mul64_any n b hnU hbU _).mono ?_
      rintro e w' ⟨rfl, rfl⟩
      rw [HZ.out, M1.out, M2.out]
      go_wp2_with fail
      go_roundw
      case rel => exact ⟨k + 1, x, by omega, by go_num, by go_num, hle, hnext, by simp⟩
      case measure => simp [intOf]; omega
    · have hbig : most < V := by
        have h2 := numF_le hex (l.drop (k + 1)) (n * b + d)
        rw [← hat.out, hp.out] at h2
        omega
      have hres1 : Hid (r1 = 0) := Lib.hid (by rw [← HR1.out, if_pos hbig])
      have hres2 : Hid (r2 = 2) := Lib.hid (by rw [← HR2.out, if_pos hbig])
      have hnot := mul_add_not (n := n) (b := b) (d := d) (m := most) hle
      have hadd := fun W => add64_run (n * b % 18446744073709551616) d W
      obtain ⟨ov, hov⟩ : ∃ ov, n * b / 18446744073709551616 = ov := ⟨_, rfl⟩
      obtain ⟨sh, hsh⟩ : ∃ sh, n * b % 18446744073709551616 = sh := ⟨_, rfl⟩
      rw [hsh] at hadd
      rw [hov, hsh] at hnot
      obtain ⟨ca, hca⟩ : ∃ ca, (sh + d + 0) / 18446744073709551616 = ca := ⟨_, rfl⟩
      obtain ⟨su, hsu⟩ : ∃ su, (sh + d + 0) % 18446744073709551616 = su := ⟨_, rfl⟩
      rw [hca, hsu] at hadd
      rw [hca, hsu] at hnot
      have HOV := Lib.hid hov
      have HSH := Lib.hid hsh
      clear hbig hov hsh hca hsu hle hat
      by_cases c1 : ov = 0
      · have g1 : ((ov : Int) != 0) = false := by simp [c1]
        by_cases c2 : ca = 0
        · have g2 : ((ca : Int) != 0) = false := by simp [c2]
          have g3 : decide ((most : Int) < (su : Int)) = true := decide_eq_true (by have := hnot c1 c2; omega)
          have g3p : most < su := hnot c1 c2
          have g3n : decide (most < su) = true := decide_eq_true g3p
          clear hnot c1 c2
          go_wp2_with fail
          refine (digit_eq y hy2 hex _).mono ?_
          rintro e w' ⟨rfl, rfl⟩
          rw [hv.out]
          go_wp2_with fail
          refine (mul64_any n b hnU hbU _).mono ?_
          rintro e w' ⟨rfl, rfl⟩
          rw [HOV.out, HSH.out]
          go_wp2_with fail
          go_ret2
          exact ⟨by rw [hres1.out, hres2.out]; rfl, rfl⟩
        · have g2 : ((ca : Int) != 0) = true := by simp [c2]
          clear hnot c1 c2
          go_wp2_with fail
          refine (digit_eq y hy2 hex _).mono ?_
          rintro e w' ⟨rfl, rfl⟩
          rw [hv.out]
          go_wp2_with fail
          refine (mul64_any n b hnU hbU _).mono ?_
          rintro e w' ⟨rfl, rfl⟩
          rw [HOV.out, HSH.out]
          go_wp2_with fail
          go_ret2
          exact ⟨by rw [hres1.out, hres2.out]; rfl, rfl⟩
      · have g1 : ((ov : Int) != 0) = true := by simp [c1]
        clear hnot c1
        go_wp2_with fail
        refine (digit_eq y hy2 hex _).mono ?_
        rintro e w' ⟨rfl, rfl⟩
        rw [hv.out]
        go_wp2_with fail
        refine (mul64_any n b hnU hbU _).mono ?_
        rintro e w' ⟨rfl, rfl⟩
        rw [HOV.out, HSH.out]
        go_wp2_with fail
        go_ret2
        exact ⟨by rw [hres1.out, hres2.out]; rfl, rfl⟩
  · have e1 : decide ((k : Int) < (l.length : Int)) = false := decide_eq_false (by omega)
    have hnV : V = n := by rw [← hp.out, List.drop_eq_nil_of_le (by omega)]; rfl
    have hres1 : Hid (r1 = n) := Lib.hid (by rw [← HR1.out, hnV, if_neg (by omega)])
    have hres2 : Hid (r2 = 0) := Lib.hid (by rw [← HR2.out, hnV, if_neg (by omega)])
    clear hnV
    go_wp2_with fail
    go_ret2
    exact ⟨by rw [hres1.out, hres2.out]; rfl, rfl⟩
set_option maxHeartbeats 1000000 in
theorem by_read (l : List UInt8) (hl : l.length < 1000000) (p : Option Addr) (cap : Nat) (hex : Bool) (digits : Int) (most : Nat) (hmost : most < U64) (w : World) (hc : CellsIn w p l.length (byteC l)) :
    Calls Tryd.prog 33 #[.slice p l.length cap, .bool hex, .int .i64 digits, .int .u64 (most : Int)] w fun e w' => e = .returned (readV hex l digits most) ∧ w = w' := by
  have HC : Hid (CellsIn w p l.length (byteC l)) := hc
  clear hc
  cases hbad : badH hex l
  · have hgood : ¬ (l.length = 0 ∨ prefF hex l < l.length) := of_decide_eq_false hbad
    have hle := prefF_le hex l
    have hall : Hid (prefF hex l = l.length) := Lib.hid (by omega)
    have HB := Lib.hid hbad
    have HM := Lib.hid hmost
    clear hbad hmost
    by_cases h2 : digits < (l.length : Int)
    · have HR : Hid (readV hex l digits most = .tuple #[.int .u64 0, .int .i64 4]) := Lib.hid (by unfold readV readR; rw [if_neg hgood, if_pos h2]; rfl)
      have d2 : decide (digits < (l.length : Int)) = true := decide_eq_true h2
      clear hgood hle
      go_enter Tryd.func33, Tryd.ntmps33
      go_wp2_with fail
      refine (by_isNumber l hl p cap hex _ HC.out).mono ?_
      rintro e w' ⟨rfl, rfl⟩
      rw [HB.out]
      go_wp2_with fail
      go_ret2
      exact ⟨by rw [HR.out]; rfl, rfl⟩
    · have d2 : decide (digits < (l.length : Int)) = false := decide_eq_false h2
      obtain ⟨x, y, hx, hy, HR⟩ : ∃ x y : Nat, Hid ((if most < numL hex l then 0 else numL hex l) = x) ∧ Hid ((if most < numL hex l then 2 else 0) = y) ∧ Hid (readV hex l digits most = .tuple #[.int .u64 (x : Int), .int .i64 (y : Int)]) := by
        refine ⟨_, _, Lib.hid rfl, Lib.hid rfl, Lib.hid ?_⟩
        unfold readV readR
        rw [if_neg hgood, if_neg h2]
        have := HM.out
        by_cases h3 : most < numL hex l
        · rw [if_pos (Or.inr h3), if_pos h3, if_pos h3]
        · rw [if_neg (by omega), if_neg h3, if_neg h3]
      clear hgood hle
      go_enter Tryd.func33, Tryd.ntmps33
      go_wp2_with fail
      refine (by_isNumber l hl p cap hex _ HC.out).mono ?_
      rintro e w' ⟨rfl, rfl⟩
      rw [HB.out]
      go_wp2_with fail
      refine (by_value l hl p cap hex most HM.out hall.out _ HC.out).mono ?_
      rintro e w' ⟨rfl, rfl⟩
      rw [hx.out, hy.out]
      go_wp2_with fail
      go_ret2
      exact ⟨by rw [HR.out]; rfl, rfl⟩
  · have HR : Hid (readV hex l digits most = .tuple #[.int .u64 0, .int .i64 3]) := Lib.hid (by unfold readV readR; rw [if_pos (of_decide_eq_true hbad)]; rfl)
    have HB := Lib.hid hbad
    clear hbad
    go_enter Tryd.func33, Tryd.ntmps33
    go_wp2_with fail
    refine (by_isNumber l hl p cap hex _ HC.out).mono ?_
    rintro e w' ⟨rfl, rfl⟩
    rw [HB.out]
    go_wp2_with fail
    go_ret2
    exact ⟨by rw [HR.out]; rfl, rfl⟩
set_option maxHeartbeats 1000000 in
theorem dec_any (l : List UInt8) (hl : l.length < 1000000) (digits : Int) (most : Nat) (hmost : most < U64) (w : World) :
    Calls Tryd.prog 14 #[.string ⟨l.toArray⟩, .int .i64 digits, .int .u64 (most : Int)] w fun e w' => e = .returned (readV false l digits most) ∧ Below w.heap.size w w' := by
  obtain ⟨x, y, hR⟩ : ∃ x y : Value, Hid (readV false l digits most = .tuple #[x, y]) := ⟨_, _, Lib.hid rfl⟩
  go_enter Tryd.func14, Tryd.ntmps14
  go_wp2_with fail
  refine (str_read l hl false digits most hmost _).mono ?_
  rintro e w' ⟨rfl, rfl⟩
  rw [hR.out]
  go_wp2_with fail
  go_ret2
  exact ⟨by rw [hR.out]; rfl, Below.refl _ _⟩
set_option maxHeartbeats 1000000 in
theorem hex_any (l : List UInt8) (hl : l.length < 1000000) (digits : Int) (most : Nat) (hmost : most < U64) (w : World) :
    Calls Tryd.prog 16 #[.string ⟨l.toArray⟩, .int .i64 digits, .int .u64 (most : Int)] w fun e w' => e = .returned (readV true l digits most) ∧ Below w.heap.size w w' := by
  obtain ⟨x, y, hR⟩ : ∃ x y : Value, Hid (readV true l digits most = .tuple #[x, y]) := ⟨_, _, Lib.hid rfl⟩
  go_enter Tryd.func16, Tryd.ntmps16
  go_wp2_with fail
  refine (str_read l hl true digits most hmost _).mono ?_
  rintro e w' ⟨rfl, rfl⟩
  rw [hR.out]
  go_wp2_with fail
  go_ret2
  exact ⟨by rw [hR.out]; rfl, Below.refl _ _⟩
theorem digit_any (n : Nat) (hn : n < 256) (h : Bool) (w : World) :
    Calls Tryd.prog 20 #[.int .u8 (n : Int), .bool h] w fun e w' => e = .returned (digitV h n) ∧ Below w.heap.size w w' :=
  (digit_eq n hn h w).mono fun _ _ ⟨h1, h2⟩ => ⟨h1, h2 ▸ Below.refl _ _⟩
set_option maxHeartbeats 1000000 in
theorem prefix_any (l : List UInt8) (hl : l.length < 1000000) (h : Bool) (w : World) :
    Calls Tryd.prog 11 #[.string ⟨l.toArray⟩, .bool h] w fun e w' => e = .returned (.int .i64 (prefF h l : Nat)) ∧ Below w.heap.size w w' := by
  go_enter Tryd.func11, Tryd.ntmps11
  go_wp2_with fail
  refine (str_leading l hl h _).mono ?_
  rintro e w' ⟨rfl, rfl⟩
  go_wp2_with fail
  go_ret
  exact ⟨rfl, Below.refl _ _⟩
end Go.Proofs.YtekbahpobhjobaaDoor
