/-
  The library's ParseUint to the base 16, for two bytes, and the program's readEscape.
-/
import Derived.Test.YtacceiloggnekaaDoorRPText
import Derived.Test.YtacceiloggnekaaDoorRQuoted
namespace Go.Proofs.YtacceiloggnekaaDoor
open Go.RowKit
attribute [local go_sem] ba_get
/-- A letter made small. -/
def loN (n : Nat) : Nat := n ||| 32
theorem or_lo : ∀ n : Fin 256, bits .or .u8 (n.val : Int) 32 = (loN n.val : Int) := by decide +kernel
theorem lower_any (n : Nat) (hn : n < 256) (w : World) :
    Calls Tryd.prog 86 #[.int .u8 (n : Int)] w fun e w' => e = .returned (.int .u8 (loN n : Int)) ∧ w = w' :=
  (Any.internal_strconv_lower lays321 (n : Int) w).mono fun _ _ ⟨h1, h2⟩ => ⟨by rw [h1, show bits .or .u8 (n : Int) 32 = (loN n : Int) from or_lo ⟨n, hn⟩], h2.symm⟩
/-- The four kinds of bytes: a decimal digit, a letter that is a digit, another letter, no digit. -/
theorem hex_kind : ∀ n : Fin 256, (48 ≤ n.val ∧ n.val ≤ 57 ∧ valH n.val = (n.val : Int) - 48) ∨
    (¬ (48 ≤ n.val ∧ n.val ≤ 57) ∧ 97 ≤ loN n.val ∧ loN n.val ≤ 102 ∧ valH n.val = (loN n.val : Int) - 87) ∨
    (¬ (48 ≤ n.val ∧ n.val ≤ 57) ∧ 103 ≤ loN n.val ∧ loN n.val ≤ 122 ∧ valH n.val = -1) ∨
    (¬ (48 ≤ n.val ∧ n.val ≤ 57) ∧ (loN n.val < 97 ∨ 122 < loN n.val) ∧ loN n.val < 256 ∧ valH n.val = -1) := by decide +kernel
/-- The number that hexadecimal digits are, on from n. -/
def hxF : List UInt8 → Nat → Option Nat
  | [], n => some n
  | c :: r, n => if 0 ≤ hexB c then hxF r (16 * n + (hexB c).toNat) else none
def hxV : Option Nat → Value
  | none => .tuple #[.int .u64 0, .iface 89 (.int .i64 2)]
  | some n => .tuple #[.int .u64 (n : Int), .nilIface]
theorem hxF_at {l : List UInt8} {k n : Nat} (h : k < l.length) : hxF (l.drop k) n = if 0 ≤ hexB l[k] then hxF (l.drop (k + 1)) (16 * n + (hexB l[k]).toNat) else none := by
  rw [List.drop_eq_getElem_cons h]; rfl
theorem conv_str (l : List UInt8) (w : World) : ∃ (C : Nat) (W1 : World), (convert 9 65 (.string ⟨l.toArray⟩)).run Tryd.prog w = .ok (.slice (some ⟨w.heap.size, 0, none⟩) l.length C) W1 ∧ Below w.heap.size w W1 ∧ ∀ j, j < l.length → W1.cell? ⟨w.heap.size, j, none⟩ = some (.int .u8 ((l.getD j 0).toNat : Int)) := by
  have h := Lib.run_convert_string_bytes (P := Tryd.prog) w 9 65 5 ⟨l.toArray⟩ Tryd.underlying9 Tryd.underlying65 Tryd.underlying5
  have hs : (ByteArray.mk l.toArray).size = l.length := by simp [ByteArray.size]
  rw [hs] at h
  exact ⟨_, _, h, Lib.bytesWorld_below _ _ _, fun j hj => Lib.bytesWorld_cell _ _ _ j (by rw [hs]; exact hj)⟩
set_option maxRecDepth 100000 in
set_option maxHeartbeats 32000000 in
theorem parse16_any (l : List UInt8) (hl : l.length = 2) (w : World) :
    Calls Tryd.prog 71 #[.string ⟨l.toArray⟩, .int .i64 16, .int .i64 8] w fun e w' => e = .returned (hxV (hxF l 0)) ∧ Below w.heap.size w w' := by
  have hemp : l.isEmpty = false := by cases l with | nil => simp at hl | cons c r => rfl
  obtain ⟨C, W1, hcv, hW1, hBA⟩ := conv_str l w
  obtain ⟨R, hR⟩ : ∃ R, hxF l 0 = R := ⟨_, rfl⟩
  rw [hR]
  have HR := Lib.hid hR
  have HBA := Lib.hid hBA
  have HW1 := Lib.hid hW1
  have HL := Lib.hid hl
  have hll : l.length ≤ 2 := by omega
  have hmv : IntKind.u64.wrap (IntKind.u64.wrap 256 - 1) = 255 := by
    rw [IntKind.wrap_u64, IntKind.wrap_u64]
    decide
  clear hR hBA hW1 hl
  go_enter Tryd.func71, Tryd.ntmps71
  go_wp2_with fail
  clear hcv
  go_loopw [12, 13, 101] (fun vu vn vi wr => ∃ (k a : Nat), vu = .bool false ∧ vn = .int .u64 a ∧ vi = .int .i64 k ∧ k ≤ l.length ∧ a < 16 ^ k ∧ Hid (hxF (l.drop k) a = R) ∧ wr = W1) (fun _ _ vi _ => l.length - (intOf vi).toNat)
  case atStart => exact ⟨0, 0, rfl, rfl, rfl, Nat.zero_le _, by omega, Lib.hid (by rw [List.drop_zero]; exact HR.out), rfl⟩
  case round =>
  obtain ⟨k, a, rfl, rfl, rfl, hk, ha, hst, rfl⟩ := hrel
  by_cases hlt : k < l.length
  · have h1 : decide ((k : Int) < (l.length : Int)) = true := decide_eq_true (by omega)
    have h1n : decide (k < l.length) = true := decide_eq_true hlt
    have hb2 : (k : Int) < (l.length : Int) := by omega
    have ha16 : a ≤ 15 := by
      rcases Nat.lt_or_ge k 1 with h | h
      · have h0 : k = 0 := by omega
        rw [h0] at ha; omega
      · have h0 : k = 1 := by omega
        rw [h0] at ha; omega
    have hc := HBA.out k hlt
    have hat := hxF_at (n := a) hlt
    rw [List.getD_eq_getElem?_getD, List.getElem?_eq_getElem hlt] at hc
    obtain ⟨z, hz⟩ : ∃ z, l[k] = z := ⟨_, rfl⟩
    rw [hz] at hat
    rw [show (some l[k]).getD 0 = z from hz] at hc
    obtain ⟨y, hy⟩ : ∃ y, z.toNat = y := ⟨_, rfl⟩
    have hy256 : y < 256 := by rw [← hy]; exact UInt8.toNat_lt _
    rw [hy] at hc
    unfold hexB at hat
    rw [hy] at hat
    have hpow : 16 ^ (k + 1) = 16 * 16 ^ k := by rw [Nat.pow_succ, Nat.mul_comm]
    have h95 : ((y : Int) == 95) = true ∨ ((y : Int) == 95) = false := by cases ((y : Int) == 95) <;> simp
    have wa : IntKind.u64.wrap ((a : Int) * 16) = (a : Int) * 16 := by rw [IntKind.wrap_u64]; omega
    rcases hex_kind ⟨y, hy256⟩ with ⟨k1, k2, kv⟩ | ⟨k0, k1, k2, kv⟩ | ⟨k0, k1, k2, kv⟩ | ⟨k0, k1, k2, kv⟩
    · dsimp only at k1 k2 kv
      have hnn : 0 ≤ valH y := by rw [kv]; omega
      obtain ⟨a', ha'⟩ : ∃ a', 16 * a + (y - 48) = a' := ⟨_, rfl⟩
      have hnext : Hid (hxF (l.drop (k + 1)) a' = R) := Lib.hid (by
        rw [← hst.out, hat, if_pos hnn, kv, ← ha']
        congr 1
        omega)
      have hlt' : Hid (a' < 16 ^ (k + 1)) := Lib.hid (by omega)
      have d0 : ((y : Int) == 95) = false := by rw [beq_eq_false_iff_ne]; omega
      have d1 : decide ((48 : Int) ≤ (y : Int)) = true := decide_eq_true (by omega)
      have d2 : decide ((y : Int) ≤ 57) = true := decide_eq_true (by omega)
      have d1n : decide (48 ≤ y) = true := decide_eq_true (by omega)
      have d2n : decide (y ≤ 57) = true := decide_eq_true (by omega)
      have q1 : IntKind.u8.wrap ((y : Int) - 48) = (y : Int) - 48 := by rw [IntKind.wrap_u8']; omega
      have q2 : IntKind.u64.wrap ((y : Int) - 48) = (y : Int) - 48 := by rw [IntKind.wrap_u64]; omega
      have q3 : decide ((16 : Int) ≤ (y : Int) - 48) = false := decide_eq_false (by omega)
      have q4 : IntKind.u64.wrap ((a : Int) * 16 + ((y : Int) - 48)) = (a' : Int) := by rw [IntKind.wrap_u64]; omega
      have q4b : (a : Int) * 16 + ((y : Int) - 48) = (a' : Int) := by omega
      have q5 : decide ((1152921504606846976 : Int) ≤ (a : Int)) = false := decide_eq_false (by omega)
      have q6 : decide ((a' : Int) < (a : Int) * 16) = false := decide_eq_false (by omega)
      have q7 : decide ((255 : Int) < (a' : Int)) = false := decide_eq_false (by omega)
      clear hat hst kv hnn hpow h95
      go_wp2_with fail
      go_roundw
      case rel => exact ⟨k + 1, a', rfl, rfl, by go_num, by omega, hlt'.out, hnext, by simp⟩
      case measure => simp [intOf]; omega
    · dsimp only at k0 k1 k2 kv
      obtain ⟨m, hm⟩ : ∃ m, loN y = m := ⟨_, rfl⟩
      have HLO := Lib.hid hm
      rw [hm] at k1 k2 kv
      have hnn : 0 ≤ valH y := by rw [kv]; omega
      obtain ⟨a', ha'⟩ : ∃ a', 16 * a + (m - 87) = a' := ⟨_, rfl⟩
      have hnext : Hid (hxF (l.drop (k + 1)) a' = R) := Lib.hid (by
        rw [← hst.out, hat, if_pos hnn, kv, ← ha']
        congr 1
        omega)
      have hlt' : Hid (a' < 16 ^ (k + 1)) := Lib.hid (by omega)
      have d1 : decide ((48 : Int) ≤ (y : Int)) = false ∨ decide ((48 : Int) ≤ (y : Int)) = true ∧ decide ((y : Int) ≤ 57) = false := by
        by_cases h : 48 ≤ y
        · exact .inr ⟨decide_eq_true (by omega), decide_eq_false (by omega)⟩
        · exact .inl (decide_eq_false (by omega))
      have e1 : decide ((97 : Int) ≤ (m : Int)) = true := decide_eq_true (by omega)
      have e2 : decide ((m : Int) ≤ 122) = true := decide_eq_true (by omega)
      have e1n : decide (97 ≤ m) = true := decide_eq_true (by omega)
      have e2n : decide (m ≤ 122) = true := decide_eq_true (by omega)
      have q0 : IntKind.u8.wrap ((m : Int) - 97) = (m : Int) - 97 := by rw [IntKind.wrap_u8']; omega
      have q1 : IntKind.u8.wrap ((m : Int) - 97 + 10) = (m : Int) - 97 + 10 := by rw [IntKind.wrap_u8']; omega
      have q2 : IntKind.u64.wrap ((m : Int) - 97 + 10) = (m : Int) - 97 + 10 := by rw [IntKind.wrap_u64]; omega
      have q3 : decide ((16 : Int) ≤ (m : Int) - 97 + 10) = false := decide_eq_false (by omega)
      have q4 : IntKind.u64.wrap ((a : Int) * 16 + ((m : Int) - 97 + 10)) = (a' : Int) := by rw [IntKind.wrap_u64]; omega
      have q4b : (a : Int) * 16 + ((m : Int) - 97 + 10) = (a' : Int) := by omega
      have q5 : decide ((1152921504606846976 : Int) ≤ (a : Int)) = false := decide_eq_false (by omega)
      have q6 : decide ((a' : Int) < (a : Int) * 16) = false := decide_eq_false (by omega)
      have q7 : decide ((255 : Int) < (a' : Int)) = false := decide_eq_false (by omega)
      clear hat hst kv hnn hpow hm
      by_cases h95 : y = 95
      · exfalso
        subst h95
        have : loN 95 = m := HLO.out
        have h2 : loN 95 = 127 := by decide
        omega
      have d0 : ((y : Int) == 95) = false := by rw [beq_eq_false_iff_ne]; omega
      clear h95
      rcases d1 with d1 | ⟨d1, d2⟩
      all_goals
        go_wp2_with (go_at_call 86; refine (lower_any _ hy256 _).mono ?_; rintro e w' ⟨rfl, rfl⟩; rw [HLO.out])
        go_roundw
        case rel => exact ⟨k + 1, a', rfl, rfl, by go_num, by omega, hlt'.out, hnext, by simp⟩
        case measure => simp [intOf]; omega
    · dsimp only at k0 k1 k2 kv
      obtain ⟨m, hm⟩ : ∃ m, loN y = m := ⟨_, rfl⟩
      have HLO := Lib.hid hm
      rw [hm] at k1 k2
      have hres : Hid (R = none) := Lib.hid (by rw [← hst.out, hat, if_neg (by rw [kv]; omega)])
      have d1 : decide ((48 : Int) ≤ (y : Int)) = false ∨ decide ((48 : Int) ≤ (y : Int)) = true ∧ decide ((y : Int) ≤ 57) = false := by
        by_cases h : 48 ≤ y
        · exact .inr ⟨decide_eq_true (by omega), decide_eq_false (by omega)⟩
        · exact .inl (decide_eq_false (by omega))
      have e1 : decide ((97 : Int) ≤ (m : Int)) = true := decide_eq_true (by omega)
      have e2 : decide ((m : Int) ≤ 122) = true := decide_eq_true (by omega)
      have e1n : decide (97 ≤ m) = true := decide_eq_true (by omega)
      have e2n : decide (m ≤ 122) = true := decide_eq_true (by omega)
      have q0 : IntKind.u8.wrap ((m : Int) - 97) = (m : Int) - 97 := by rw [IntKind.wrap_u8']; omega
      have q1 : IntKind.u8.wrap ((m : Int) - 97 + 10) = (m : Int) - 97 + 10 := by rw [IntKind.wrap_u8']; omega
      have q3 : decide ((16 : Int) ≤ (m : Int) - 97 + 10) = true := decide_eq_true (by omega)
      clear hat hst kv hpow hm
      by_cases h95 : y = 95
      · exfalso
        subst h95
        have : loN 95 = m := HLO.out
        have h2 : loN 95 = 127 := by decide
        omega
      have d0 : ((y : Int) == 95) = false := by rw [beq_eq_false_iff_ne]; omega
      clear h95
      rcases d1 with d1 | ⟨d1, d2⟩
      all_goals
        go_wp2_with (go_at_call 86; refine (lower_any _ hy256 _).mono ?_; rintro e w' ⟨rfl, rfl⟩; rw [HLO.out])
        go_ret2
        exact ⟨by rw [hres.out]; rfl, HW1.out⟩
    · dsimp only at k0 k1 k2 kv
      obtain ⟨m, hm⟩ : ∃ m, loN y = m := ⟨_, rfl⟩
      have HLO := Lib.hid hm
      rw [hm] at k1 k2
      have hres : Hid (R = none) := Lib.hid (by rw [← hst.out, hat, if_neg (by rw [kv]; omega)])
      have d1 : decide ((48 : Int) ≤ (y : Int)) = false ∨ decide ((48 : Int) ≤ (y : Int)) = true ∧ decide ((y : Int) ≤ 57) = false := by
        by_cases h : 48 ≤ y
        · exact .inr ⟨decide_eq_true (by omega), decide_eq_false (by omega)⟩
        · exact .inl (decide_eq_false (by omega))
      have e1 : decide ((97 : Int) ≤ (m : Int)) = false ∨ decide ((97 : Int) ≤ (m : Int)) = true ∧ decide ((m : Int) ≤ 122) = false := by
        by_cases h : 97 ≤ m
        · exact .inr ⟨decide_eq_true (by omega), decide_eq_false (by omega)⟩
        · exact .inl (decide_eq_false (by omega))
      have d0 : ((y : Int) == 95) = true ∨ ((y : Int) == 95) = false := h95
      clear hat hst kv hpow hm k1 h95
      rcases d1 with d1 | ⟨d1, d2⟩ <;> rcases e1 with e1 | ⟨e1, e2⟩ <;> rcases d0 with d0 | d0
      all_goals
        go_wp2_with (go_at_call 86; refine (lower_any _ hy256 _).mono ?_; rintro e w' ⟨rfl, rfl⟩; rw [HLO.out])
        go_ret2
        exact ⟨by rw [hres.out]; rfl, HW1.out⟩
  · have h1 : decide ((k : Int) < (l.length : Int)) = false := decide_eq_false (by omega)
    have h1n : decide (k < l.length) = false := decide_eq_false hlt
    have hres : Hid (R = some a) := Lib.hid (by rw [← hst.out, List.drop_eq_nil_of_le (by omega)]; rfl)
    clear hst
    go_wp2_with fail
    go_ret2
    exact ⟨by rw [hres.out]; rfl, HW1.out⟩
end Go.Proofs.YtacceiloggnekaaDoor
