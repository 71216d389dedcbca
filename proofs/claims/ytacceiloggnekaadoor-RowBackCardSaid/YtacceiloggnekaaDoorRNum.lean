/-
  The reference's Number for every text and two numbers.
-/
import Derived.Test.YtacceiloggnekaaDoorRWrite
namespace Go.Proofs.YtacceiloggnekaaDoor
open Go.RowKit
attribute [local go_sem] ba_get
theorem wrap64 {x : Int} (h1 : -1000000000000 < x) (h2 : x < 1000000000000) : IntKind.i64.wrap x = x := by
  simp only [IntKind.wrap, IntKind.bits, IntKind.signed]
  simp
  omega
theorem dg_bounds {b : UInt8} (h : isDg b = true) : 48 ≤ b.toNat ∧ b.toNat ≤ 57 := by
  unfold isDg at h
  rw [Bool.and_eq_true] at h
  exact ⟨of_decide_eq_true h.1, of_decide_eq_true h.2⟩
theorem dg_out {b : UInt8} (h : ¬ isDg b = true) : b.toNat < 48 ∨ 57 < b.toNat := by
  by_cases h1 : b.toNat < 48
  · exact Or.inl h1
  · by_cases h2 : 57 < b.toNat
    · exact Or.inr h2
    · exfalso
      apply h
      unfold isDg
      rw [Bool.and_eq_true]
      exact ⟨decide_eq_true (by omega), decide_eq_true (by omega)⟩
/-- Number's answer of a sign and the bytes behind it. -/
def digV (m : Bool) (d : List UInt8) (low high : Int) : Value := .tuple #[.int .i64 (digR m d low high).1, .int .i64 ((digR m d low high).2 : Nat)]
def numV (l : List UInt8) (low high : Int) : Value := .tuple #[.int .i64 (numR l low high).1, .int .i64 ((numR l low high).2 : Nat)]
theorem digV_bad {m : Bool} {d : List UInt8} {low high : Int} (h : BadD m d) : digV m d low high = .tuple #[.int .i64 0, .int .i64 3] := by
  unfold digV digR
  rw [if_pos h]
  rfl
theorem digV_none {m : Bool} {d : List UInt8} {low high : Int} (h : ¬ BadD m d) (hn : numF d 0 = none) : digV m d low high = .tuple #[.int .i64 0, .int .i64 3] := by
  unfold digV digR
  rw [if_neg h, hn]
  rfl
theorem digV_range {m : Bool} {d : List UInt8} {low high : Int} {n : Nat} (h : ¬ BadD m d) (hn : numF d 0 = some n) (hr : (if m then -(n : Int) else (n : Int)) < low ∨ high < (if m then -(n : Int) else (n : Int))) : digV m d low high = .tuple #[.int .i64 0, .int .i64 2] := by
  unfold digV digR
  rw [if_neg h, hn]
  dsimp only
  rw [if_pos hr]
  rfl
theorem digV_ok {m : Bool} {d : List UInt8} {low high : Int} {n : Nat} (h : ¬ BadD m d) (hn : numF d 0 = some n) (h1 : ¬ (if m then -(n : Int) else (n : Int)) < low) (h2 : ¬ high < (if m then -(n : Int) else (n : Int))) : digV m d low high = .tuple #[.int .i64 (if m then -(n : Int) else (n : Int)), .int .i64 0] := by
  unfold digV digR
  rw [if_neg h, hn]
  dsimp only
  rw [if_neg (fun h => h.elim h1 h2)]
  rfl
theorem ba_tail (c : UInt8) (r : List UInt8) : (ByteArray.mk (c :: r).toArray).extract 1 (r.length + 1) = ⟨r.toArray⟩ := by
  apply ByteArray.ext
  rw [ByteArray.data_extract]
  rw [List.extract_toArray, List.extract_eq_take_drop]
  simp
set_option maxHeartbeats 4000000 in
theorem refNumber_any (l : List UInt8) (hl : l.length < 1000000) (low high : Int) (w : World) :
    Calls Tryd.prog 19 #[.string ⟨l.toArray⟩, .int .i64 low, .int .i64 high] w fun e w' => e = .returned (numV l low high) ∧ w = w' := by
  by_cases hm : ∃ r, l = 45 :: r
  · obtain ⟨r, rfl⟩ := hm
    have HNV : Hid (numV (45 :: r) low high = digV true r low high) := Lib.hid rfl
    have g1 := ba_tail 45 r
    have hl2 : r.length < 1000000 := by simp at hl; omega
    rw [HNV.out]
    clear HNV hl
    go_enter Tryd.func19, Tryd.ntmps19
    go_upto_region 5 with fail
    by_cases h0 : r = []
    · have HRR : Hid (digV true r low high = .tuple #[.int .i64 0, .int .i64 3]) := Lib.hid (digV_bad (Or.inl (by rw [h0]; rfl)))
      have hemp : r.isEmpty = true := by rw [h0]; rfl
      go_wp2_with fail
      go_ret2
      exact ⟨by rw [HRR.out]; rfl, rfl⟩
    have hlen0 : 0 < r.length := List.length_pos_iff.2 h0
    have hemp : r.isEmpty = false := by
      cases r with
      | nil => exact absurd rfl h0
      | cons c r => rfl
    by_cases h9 : 9 < r.length
    · have HRR : Hid (digV true r low high = .tuple #[.int .i64 0, .int .i64 3]) := Lib.hid (digV_bad (Or.inr (Or.inl h9)))
      have d9 : decide ((9 : Int) < (r.length : Int)) = true := decide_eq_true (by omega)
      go_wp2_with fail
      go_ret2
      exact ⟨by rw [HRR.out]; rfl, rfl⟩
    have d9 : decide ((9 : Int) < (r.length : Int)) = false := decide_eq_false (by omega)
    have hb0 : (0 : Int) < (r.length : Int) := by omega
    obtain ⟨R, hR⟩ : ∃ R, numF r 0 = R := ⟨_, rfl⟩
    have HN := Lib.hid hR
    clear hR
    have hget : (r[0]?).getD 0 = r[0] := by rw [List.getElem?_eq_getElem hlen0]; rfl
    obtain ⟨y0, hy0⟩ : ∃ y0, (r[0]).toNat = y0 := ⟨_, rfl⟩
    by_cases hz0 : y0 = 48
    · have z1 : ((y0 : Int) == 48) = true := by rw [beq_iff_eq]; omega
      have z2 : (y0 == 48) = true := by rw [beq_iff_eq]; exact hz0
      have HRR : Hid (digV true r low high = .tuple #[.int .i64 0, .int .i64 3]) := Lib.hid (digV_bad (Or.inr (Or.inr ⟨by rw [hget, hy0]; exact hz0, Or.inr rfl⟩)))
      clear hz0
      by_cases h11 : 1 < r.length
      · have d11 : decide ((1 : Int) < (r.length : Int)) = true := decide_eq_true (by omega)
        go_wp2_with fail
        go_ret2
        exact ⟨by rw [HRR.out]; rfl, rfl⟩
      · have d11 : decide ((1 : Int) < (r.length : Int)) = false := decide_eq_false (by omega)
        go_wp2_with fail
        go_ret2
        exact ⟨by rw [HRR.out]; rfl, rfl⟩
    · have z1 : ((y0 : Int) == 48) = false := by rw [beq_eq_false_iff_ne]; omega
      have z2 : (y0 == 48) = false := by rw [beq_eq_false_iff_ne]; exact hz0
      have hbad : ¬ BadD true r := fun h => by
        rcases h with h | h | h
        · omega
        · omega
        · have := h.1
          rw [hget, hy0] at this
          exact hz0 this
      clear hz0
      go_wp2_with fail
      go_loopw [10, 11] (fun a i wr => ∃ (k n : Nat), k ≤ r.length ∧ i = .int .i64 k ∧ a = .int .i64 n ∧ Hid (numF (r.drop k) n = R) ∧ Hid (n < 10 ^ k) ∧ wr = w) (fun _ i _ => r.length - (intOf i).toNat)
      case atStart => exact ⟨0, 0, Nat.zero_le _, rfl, rfl, Lib.hid (by rw [List.drop_zero, HN.out]), Lib.hid (by simp), rfl⟩
      case round =>
        obtain ⟨k, n, hk, rfl, rfl, hp, hn, rfl⟩ := hrel
        have hn9 : n < 10000000000 := Nat.lt_of_lt_of_le hn.out (by
          have : 10 ^ k ≤ 10 ^ 10 := Nat.pow_le_pow_right (by omega) (by omega)
          exact this)
        by_cases hlt : k < r.length
        · have h1 : decide ((k : Int) < (r.length : Int)) = true := decide_eq_true (by omega)
          have hb2 : (k : Int) < (r.length : Int) := by omega
          have hat := numF_at (n := n) hlt
          have hlt2 : (r[k]).toNat < 256 := UInt8.toNat_lt _
          by_cases hdg : isDg r[k] = true
          · rw [if_pos hdg] at hat
            have hd2 := dg_bounds hdg
            obtain ⟨z, hz⟩ : ∃ z, (r[k]).toNat - 48 = z := ⟨_, rfl⟩
            rw [hz] at hat
            obtain ⟨y, hy⟩ : ∃ y, (r[k]).toNat = y := ⟨_, rfl⟩
            rw [hy] at hd2 hz hlt2
            have hnext : Hid (numF (r.drop (k + 1)) (10 * n + z) = R) := Lib.hid (by rw [← hp.out, hat])
            have hn2 : Hid (10 * n + z < 10 ^ (k + 1)) := Lib.hid (by have := hn.out; rw [Nat.pow_succ]; omega)
            have d1 : decide ((y : Int) < 48) = false := decide_eq_false (by omega)
            have d2 : decide ((57 : Int) < (y : Int)) = false := decide_eq_false (by omega)
            have d3 : decide (y < 48) = false := decide_eq_false (by omega)
            have d4 : decide (57 < y) = false := decide_eq_false (by omega)
            have e1 : (y : Int) - 48 = (z : Int) := by omega
            have q1 : IntKind.u8.wrap (z : Int) = (z : Int) := wrap8 (by omega)
            have q2 : IntKind.i64.wrap (z : Int) = (z : Int) := wrap64 (by omega) (by omega)
            have q3 : IntKind.i64.wrap (10 * (n : Int)) = 10 * (n : Int) := wrap64 (by omega) (by omega)
            have q4 : IntKind.i64.wrap (10 * (n : Int) + (z : Int)) = 10 * (n : Int) + (z : Int) := wrap64 (by omega) (by omega)
            clear hat hdg hd2 hz
            go_wp2_with fail
            go_roundw
            case rel => exact ⟨k + 1, 10 * n + z, by omega, by go_num, by push_cast; rfl, hnext, hn2, by simp⟩
            case measure => simp [intOf]; omega
          · rw [if_neg hdg] at hat
            have hres : Hid (R = none) := Lib.hid (by rw [← hp.out, hat])
            have hd2 := dg_out hdg
            have HRR : Hid (digV true r low high = .tuple #[.int .i64 0, .int .i64 3]) := Lib.hid (digV_none hbad (by rw [HN.out, hres.out]))
            obtain ⟨y, hy⟩ : ∃ y, (r[k]).toNat = y := ⟨_, rfl⟩
            rw [hy] at hd2
            clear hat hdg
            rcases hd2 with hd2 | hd2
            · have d1 : decide ((y : Int) < 48) = true := decide_eq_true (by omega)
              have d3 : decide (y < 48) = true := decide_eq_true (by omega)
              go_wp2_with fail
              go_ret2
              exact ⟨by rw [HRR.out]; rfl, rfl⟩
            · have d1 : decide ((y : Int) < 48) = false := decide_eq_false (by omega)
              have d2 : decide ((57 : Int) < (y : Int)) = true := decide_eq_true (by omega)
              have d3 : decide (y < 48) = false := decide_eq_false (by omega)
              have d4 : decide (57 < y) = true := decide_eq_true (by omega)
              go_wp2_with fail
              go_ret2
              exact ⟨by rw [HRR.out]; rfl, rfl⟩
        · have h1 : decide ((k : Int) < (r.length : Int)) = false := decide_eq_false (by omega)
          have hres : Hid (numF r 0 = some n) := Lib.hid (by rw [HN.out, ← hp.out, List.drop_eq_nil_of_le (by omega)]; rfl)
          have q5 : IntKind.i64.wrap (-(n : Int)) = -(n : Int) := wrap64 (by omega) (by omega)
          by_cases hlo : -(n : Int) < low
          · have HRR : Hid (digV true r low high = .tuple #[.int .i64 0, .int .i64 2]) := Lib.hid (digV_range hbad hres.out (Or.inl hlo))
            have d1 : decide (-(n : Int) < low) = true := decide_eq_true hlo
            clear hp
            go_wp2_with fail
            go_ret2
            exact ⟨by rw [HRR.out]; rfl, rfl⟩
          · have d1 : decide (-(n : Int) < low) = false := decide_eq_false hlo
            by_cases hhi : high < -(n : Int)
            · have HRR : Hid (digV true r low high = .tuple #[.int .i64 0, .int .i64 2]) := Lib.hid (digV_range hbad hres.out (Or.inr hhi))
              have d2 : decide (high < -(n : Int)) = true := decide_eq_true hhi
              clear hp
              go_wp2_with fail
              go_ret2
              exact ⟨by rw [HRR.out]; rfl, rfl⟩
            · have HRR : Hid (digV true r low high = .tuple #[.int .i64 (-(n : Int)), .int .i64 0]) := Lib.hid (digV_ok hbad hres.out hlo hhi)
              have d2 : decide (high < -(n : Int)) = false := decide_eq_false hhi
              clear hp
              go_wp2_with fail
              go_ret2
              exact ⟨by rw [HRR.out]; rfl, rfl⟩
  · have HNV : Hid (numV l low high = digV false l low high) := Lib.hid (by
      cases l with
      | nil => rfl
      | cons c r =>
        show numV (c :: r) low high = _
        unfold numV numR
        dsimp only
        rw [if_neg (fun h => hm ⟨r, by rw [show c = 45 from UInt8.toNat_inj.1 h]⟩)]
        rfl)
    rw [HNV.out]
    by_cases hne : l = []
    · subst hne
      have HRR : Hid (digV false [] low high = .tuple #[.int .i64 0, .int .i64 3]) := Lib.hid (digV_bad (Or.inl rfl))
      clear HNV hm
      go_enter Tryd.func19, Tryd.ntmps19
      go_wp2_with fail
      go_ret2
      exact ⟨by rw [HRR.out]; rfl, rfl⟩
    have hlenl : 0 < l.length := List.length_pos_iff.2 hne
    have hempl : l.isEmpty = false := by
      cases l with
      | nil => exact absurd rfl hne
      | cons c r => rfl
    have hbl : (0 : Int) < (l.length : Int) := by omega
    have hmy : ¬ (l[0]).toNat = 45 := fun h => hm (by
      cases l with
      | nil => exact absurd rfl hne
      | cons c r => exact ⟨r, by rw [show c = 45 from UInt8.toNat_inj.1 h]⟩)
    obtain ⟨yl, hyl⟩ : ∃ yl, (l[0]).toNat = yl := ⟨_, rfl⟩
    rw [hyl] at hmy
    have z0 : ((yl : Int) == 45) = false := by rw [beq_eq_false_iff_ne]; omega
    have z01 : (yl == 45) = false := by rw [beq_eq_false_iff_ne]; exact hmy
    clear HNV hm
    go_enter Tryd.func19, Tryd.ntmps19
    go_upto_region 5 with fail
    have hyl2 := Lib.hid hyl
    clear hyl hmy z0 z01 hbl hempl
    by_cases h0 : l = []
    · have HRR : Hid (digV false l low high = .tuple #[.int .i64 0, .int .i64 3]) := Lib.hid (digV_bad (Or.inl (by rw [h0]; rfl)))
      have hemp : l.isEmpty = true := by rw [h0]; rfl
      go_wp2_with fail
      go_ret2
      exact ⟨by rw [HRR.out]; rfl, rfl⟩
    have hlen0 : 0 < l.length := List.length_pos_iff.2 h0
    have hemp : l.isEmpty = false := by
      cases l with
      | nil => exact absurd rfl h0
      | cons c r => rfl
    by_cases h9 : 9 < l.length
    · have HRR : Hid (digV false l low high = .tuple #[.int .i64 0, .int .i64 3]) := Lib.hid (digV_bad (Or.inr (Or.inl h9)))
      have d9 : decide ((9 : Int) < (l.length : Int)) = true := decide_eq_true (by omega)
      go_wp2_with fail
      go_ret2
      exact ⟨by rw [HRR.out]; rfl, rfl⟩
    have d9 : decide ((9 : Int) < (l.length : Int)) = false := decide_eq_false (by omega)
    have hb0 : (0 : Int) < (l.length : Int) := by omega
    obtain ⟨R, hR⟩ : ∃ R, numF l 0 = R := ⟨_, rfl⟩
    have HN := Lib.hid hR
    clear hR
    have hget : (l[0]?).getD 0 = l[0] := by rw [List.getElem?_eq_getElem hlen0]; rfl
    obtain ⟨y0, hy0⟩ : ∃ y0, (l[0]).toNat = y0 := ⟨_, rfl⟩
    by_cases hz0 : y0 = 48
    · have z1 : ((y0 : Int) == 48) = true := by rw [beq_iff_eq]; omega
      have z2 : (y0 == 48) = true := by rw [beq_iff_eq]; exact hz0
      by_cases h11 : 1 < l.length
      · have HRR : Hid (digV false l low high = .tuple #[.int .i64 0, .int .i64 3]) := Lib.hid (digV_bad (Or.inr (Or.inr ⟨by rw [hget, hy0]; exact hz0, Or.inl h11⟩)))
        have d11 : decide ((1 : Int) < (l.length : Int)) = true := decide_eq_true (by omega)
        clear hz0
        go_wp2_with fail
        go_ret2
        exact ⟨by rw [HRR.out]; rfl, rfl⟩
      · have d11 : decide ((1 : Int) < (l.length : Int)) = false := decide_eq_false (by omega)
        have hbad : ¬ BadD false l := fun h => by
          rcases h with h | h | h
          · omega
          · omega
          · rcases h.2 with h | h
            · omega
            · cases h
        clear hz0
        go_wp2_with fail
        go_loopw [10, 11] (fun a i wr => ∃ (k n : Nat), k ≤ l.length ∧ i = .int .i64 k ∧ a = .int .i64 n ∧ Hid (numF (l.drop k) n = R) ∧ Hid (n < 10 ^ k) ∧ wr = w) (fun _ i _ => l.length - (intOf i).toNat)
        case atStart => exact ⟨0, 0, Nat.zero_le _, rfl, rfl, Lib.hid (by rw [List.drop_zero, HN.out]), Lib.hid (by simp), rfl⟩
        case round =>
          obtain ⟨k, n, hk, rfl, rfl, hp, hn, rfl⟩ := hrel
          have hn9 : n < 10000000000 := Nat.lt_of_lt_of_le hn.out (by
            have : 10 ^ k ≤ 10 ^ 10 := Nat.pow_le_pow_right (by omega) (by omega)
            exact this)
          by_cases hlt : k < l.length
          · have h1 : decide ((k : Int) < (l.length : Int)) = true := decide_eq_true (by omega)
            have hb2 : (k : Int) < (l.length : Int) := by omega
            have hat := numF_at (n := n) hlt
            have hlt2 : (l[k]).toNat < 256 := UInt8.toNat_lt _
            by_cases hdg : isDg l[k] = true
            · rw [if_pos hdg] at hat
              have hd2 := dg_bounds hdg
              obtain ⟨z, hz⟩ : ∃ z, (l[k]).toNat - 48 = z := ⟨_, rfl⟩
              rw [hz] at hat
              obtain ⟨y, hy⟩ : ∃ y, (l[k]).toNat = y := ⟨_, rfl⟩
              rw [hy] at hd2 hz hlt2
              have hnext : Hid (numF (l.drop (k + 1)) (10 * n + z) = R) := Lib.hid (by rw [← hp.out, hat])
              have hn2 : Hid (10 * n + z < 10 ^ (k + 1)) := Lib.hid (by have := hn.out; rw [Nat.pow_succ]; omega)
              have d1 : decide ((y : Int) < 48) = false := decide_eq_false (by omega)
              have d2 : decide ((57 : Int) < (y : Int)) = false := decide_eq_false (by omega)
              have d3 : decide (y < 48) = false := decide_eq_false (by omega)
              have d4 : decide (57 < y) = false := decide_eq_false (by omega)
              have e1 : (y : Int) - 48 = (z : Int) := by omega
              have q1 : IntKind.u8.wrap (z : Int) = (z : Int) := wrap8 (by omega)
              have q2 : IntKind.i64.wrap (z : Int) = (z : Int) := wrap64 (by omega) (by omega)
              have q3 : IntKind.i64.wrap (10 * (n : Int)) = 10 * (n : Int) := wrap64 (by omega) (by omega)
              have q4 : IntKind.i64.wrap (10 * (n : Int) + (z : Int)) = 10 * (n : Int) + (z : Int) := wrap64 (by omega) (by omega)
              clear hat hdg hd2 hz
              go_wp2_with fail
              go_roundw
              case rel => exact ⟨k + 1, 10 * n + z, by omega, by go_num, by push_cast; rfl, hnext, hn2, by simp⟩
              case measure => simp [intOf]; omega
            · rw [if_neg hdg] at hat
              have hres : Hid (R = none) := Lib.hid (by rw [← hp.out, hat])
              have hd2 := dg_out hdg
              have HRR : Hid (digV false l low high = .tuple #[.int .i64 0, .int .i64 3]) := Lib.hid (digV_none hbad (by rw [HN.out, hres.out]))
              obtain ⟨y, hy⟩ : ∃ y, (l[k]).toNat = y := ⟨_, rfl⟩
              rw [hy] at hd2
              clear hat hdg
              rcases hd2 with hd2 | hd2
              · have d1 : decide ((y : Int) < 48) = true := decide_eq_true (by omega)
                have d3 : decide (y < 48) = true := decide_eq_true (by omega)
                go_wp2_with fail
                go_ret2
                exact ⟨by rw [HRR.out]; rfl, rfl⟩
              · have d1 : decide ((y : Int) < 48) = false := decide_eq_false (by omega)
                have d2 : decide ((57 : Int) < (y : Int)) = true := decide_eq_true (by omega)
                have d3 : decide (y < 48) = false := decide_eq_false (by omega)
                have d4 : decide (57 < y) = true := decide_eq_true (by omega)
                go_wp2_with fail
                go_ret2
                exact ⟨by rw [HRR.out]; rfl, rfl⟩
          · have h1 : decide ((k : Int) < (l.length : Int)) = false := decide_eq_false (by omega)
            have hres : Hid (numF l 0 = some n) := Lib.hid (by rw [HN.out, ← hp.out, List.drop_eq_nil_of_le (by omega)]; rfl)
            have q5 : IntKind.i64.wrap (-(n : Int)) = -(n : Int) := wrap64 (by omega) (by omega)
            by_cases hlo : (n : Int) < low
            · have HRR : Hid (digV false l low high = .tuple #[.int .i64 0, .int .i64 2]) := Lib.hid (digV_range hbad hres.out (Or.inl hlo))
              have d1 : decide ((n : Int) < low) = true := decide_eq_true hlo
              clear hp
              go_wp2_with fail
              go_ret2
              exact ⟨by rw [HRR.out]; rfl, rfl⟩
            · have d1 : decide ((n : Int) < low) = false := decide_eq_false hlo
              by_cases hhi : high < (n : Int)
              · have HRR : Hid (digV false l low high = .tuple #[.int .i64 0, .int .i64 2]) := Lib.hid (digV_range hbad hres.out (Or.inr hhi))
                have d2 : decide (high < (n : Int)) = true := decide_eq_true hhi
                clear hp
                go_wp2_with fail
                go_ret2
                exact ⟨by rw [HRR.out]; rfl, rfl⟩
              · have HRR : Hid (digV false l low high = .tuple #[.int .i64 ((n : Int)), .int .i64 0]) := Lib.hid (digV_ok hbad hres.out hlo hhi)
                have d2 : decide (high < (n : Int)) = false := decide_eq_false hhi
                clear hp
                go_wp2_with fail
                go_ret2
                exact ⟨by rw [HRR.out]; rfl, rfl⟩
    · have z1 : ((y0 : Int) == 48) = false := by rw [beq_eq_false_iff_ne]; omega
      have z2 : (y0 == 48) = false := by rw [beq_eq_false_iff_ne]; exact hz0
      have hbad : ¬ BadD false l := fun h => by
        rcases h with h | h | h
        · omega
        · omega
        · have := h.1
          rw [hget, hy0] at this
          exact hz0 this
      clear hz0
      go_wp2_with fail
      go_loopw [10, 11] (fun a i wr => ∃ (k n : Nat), k ≤ l.length ∧ i = .int .i64 k ∧ a = .int .i64 n ∧ Hid (numF (l.drop k) n = R) ∧ Hid (n < 10 ^ k) ∧ wr = w) (fun _ i _ => l.length - (intOf i).toNat)
      case atStart => exact ⟨0, 0, Nat.zero_le _, rfl, rfl, Lib.hid (by rw [List.drop_zero, HN.out]), Lib.hid (by simp), rfl⟩
      case round =>
        obtain ⟨k, n, hk, rfl, rfl, hp, hn, rfl⟩ := hrel
        have hn9 : n < 10000000000 := Nat.lt_of_lt_of_le hn.out (by
          have : 10 ^ k ≤ 10 ^ 10 := Nat.pow_le_pow_right (by omega) (by omega)
          exact this)
        by_cases hlt : k < l.length
        · have h1 : decide ((k : Int) < (l.length : Int)) = true := decide_eq_true (by omega)
          have hb2 : (k : Int) < (l.length : Int) := by omega
          have hat := numF_at (n := n) hlt
          have hlt2 : (l[k]).toNat < 256 := UInt8.toNat_lt _
          by_cases hdg : isDg l[k] = true
          · rw [if_pos hdg] at hat
            have hd2 := dg_bounds hdg
            obtain ⟨z, hz⟩ : ∃ z, (l[k]).toNat - 48 = z := ⟨_, rfl⟩
            rw [hz] at hat
            obtain ⟨y, hy⟩ : ∃ y, (l[k]).toNat = y := ⟨_, rfl⟩
            rw [hy] at hd2 hz hlt2
            have hnext : Hid (numF (l.drop (k + 1)) (10 * n + z) = R) := Lib.hid (by rw [← hp.out, hat])
            have hn2 : Hid (10 * n + z < 10 ^ (k + 1)) := Lib.hid (by have := hn.out; rw [Nat.pow_succ]; omega)
            have d1 : decide ((y : Int) < 48) = false := decide_eq_false (by omega)
            have d2 : decide ((57 : Int) < (y : Int)) = false := decide_eq_false (by omega)
            have d3 : decide (y < 48) = false := decide_eq_false (by omega)
            have d4 : decide (57 < y) = false := decide_eq_false (by omega)
            have e1 : (y : Int) - 48 = (z : Int) := by omega
            have q1 : IntKind.u8.wrap (z : Int) = (z : Int) := wrap8 (by omega)
            have q2 : IntKind.i64.wrap (z : Int) = (z : Int) := wrap64 (by omega) (by omega)
            have q3 : IntKind.i64.wrap (10 * (n : Int)) = 10 * (n : Int) := wrap64 (by omega) (by omega)
            have q4 : IntKind.i64.wrap (10 * (n : Int) + (z : Int)) = 10 * (n : Int) + (z : Int) := wrap64 (by omega) (by omega)
            clear hat hdg hd2 hz
            go_wp2_with fail
            go_roundw
            case rel => exact ⟨k + 1, 10 * n + z, by omega, by go_num, by push_cast; rfl, hnext, hn2, by simp⟩
            case measure => simp [intOf]; omega
          · rw [if_neg hdg] at hat
            have hres : Hid (R = none) := Lib.hid (by rw [← hp.out, hat])
            have hd2 := dg_out hdg
            have HRR : Hid (digV false l low high = .tuple #[.int .i64 0, .int .i64 3]) := Lib.hid (digV_none hbad (by rw [HN.out, hres.out]))
            obtain ⟨y, hy⟩ : ∃ y, (l[k]).toNat = y := ⟨_, rfl⟩
            rw [hy] at hd2
            clear hat hdg
            rcases hd2 with hd2 | hd2
            · have d1 : decide ((y : Int) < 48) = true := decide_eq_true (by omega)
              have d3 : decide (y < 48) = true := decide_eq_true (by omega)
              go_wp2_with fail
              go_ret2
              exact ⟨by rw [HRR.out]; rfl, rfl⟩
            · have d1 : decide ((y : Int) < 48) = false := decide_eq_false (by omega)
              have d2 : decide ((57 : Int) < (y : Int)) = true := decide_eq_true (by omega)
              have d3 : decide (y < 48) = false := decide_eq_false (by omega)
              have d4 : decide (57 < y) = true := decide_eq_true (by omega)
              go_wp2_with fail
              go_ret2
              exact ⟨by rw [HRR.out]; rfl, rfl⟩
        · have h1 : decide ((k : Int) < (l.length : Int)) = false := decide_eq_false (by omega)
          have hres : Hid (numF l 0 = some n) := Lib.hid (by rw [HN.out, ← hp.out, List.drop_eq_nil_of_le (by omega)]; rfl)
          have q5 : IntKind.i64.wrap (-(n : Int)) = -(n : Int) := wrap64 (by omega) (by omega)
          by_cases hlo : (n : Int) < low
          · have HRR : Hid (digV false l low high = .tuple #[.int .i64 0, .int .i64 2]) := Lib.hid (digV_range hbad hres.out (Or.inl hlo))
            have d1 : decide ((n : Int) < low) = true := decide_eq_true hlo
            clear hp
            go_wp2_with fail
            go_ret2
            exact ⟨by rw [HRR.out]; rfl, rfl⟩
          · have d1 : decide ((n : Int) < low) = false := decide_eq_false hlo
            by_cases hhi : high < (n : Int)
            · have HRR : Hid (digV false l low high = .tuple #[.int .i64 0, .int .i64 2]) := Lib.hid (digV_range hbad hres.out (Or.inr hhi))
              have d2 : decide (high < (n : Int)) = true := decide_eq_true hhi
              clear hp
              go_wp2_with fail
              go_ret2
              exact ⟨by rw [HRR.out]; rfl, rfl⟩
            · have HRR : Hid (digV false l low high = .tuple #[.int .i64 ((n : Int)), .int .i64 0]) := Lib.hid (digV_ok hbad hres.out hlo hhi)
              have d2 : decide (high < (n : Int)) = false := decide_eq_false hhi
              clear hp
              go_wp2_with fail
              go_ret2
              exact ⟨by rw [HRR.out]; rfl, rfl⟩
end Go.Proofs.YtacceiloggnekaaDoor
