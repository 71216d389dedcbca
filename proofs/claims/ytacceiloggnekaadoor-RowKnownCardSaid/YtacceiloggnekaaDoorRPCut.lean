/-
  The library's Cut at a line feed, for every text.
-/
import Derived.Test.YtacceiloggnekaaDoorRPLay
import Derived.RegionTactic
import Derived.BigRegion
import Derived.BigQuiet
import Derived.Deep.QuietTactic
import Derived.WalkSmall
namespace Go.Proofs.YtacceiloggnekaaDoor
open Go.RowKit
attribute [local go_sem] ba_get
theorem indexByte_line : ∀ r : List UInt8, Lib.indexByte r 10 = if lineN r < r.length then (lineN r : Int) else -1
  | [] => rfl
  | c :: r => by
    have ih := indexByte_line r
    have hle := lineN_le r
    unfold Lib.indexByte lineN
    by_cases h10 : c.toNat = 10
    · have hc : c = 10 := UInt8.toNat_inj.1 h10
      rw [if_pos h10, hc]
      simp
    · have hc : (c == 10) = false := by
        rw [beq_eq_false_iff_ne]
        intro e
        rw [e] at h10
        exact h10 rfl
      rw [if_neg h10, hc]
      show (if Lib.indexByte r 10 == -1 then -1 else Lib.indexByte r 10 + 1) = if lineN r + 1 < r.length + 1 then ((lineN r + 1 : Nat) : Int) else -1
      by_cases h : lineN r < r.length
      · rw [if_pos h] at ih
        rw [ih, show ((lineN r : Int) == -1) = false by rw [beq_eq_false_iff_ne]; omega]
        show (lineN r : Int) + 1 = _
        rw [if_pos (by omega)]
        omega
      · rw [if_neg h] at ih
        rw [ih]
        show (-1 : Int) = _
        rw [if_neg (by omega)]
theorem sixb_any (l : List UInt8) (c : Int) (w : World) :
    Calls Tryd.prog 77 #[.string ⟨l.toArray⟩, .int .u8 c] w fun e w' => e = .returned (.int .i64 (Lib.indexByte l c.toNat.toUInt8)) ∧ w = w' :=
  (Any.stringslite_IndexByte { lays137 with } ⟨l.toArray⟩ c w).mono fun _ _ ⟨h1, h2⟩ => ⟨h1, h2.symm⟩
set_option maxRecDepth 100000 in
set_option maxHeartbeats 4000000 in
theorem index1_any (l : List UInt8) (w : World) :
    Calls Tryd.prog 65 #[.string ⟨l.toArray⟩, .string ⟨#[10]⟩] w fun e w' => e = .returned (.int .i64 (Lib.indexByte l 10)) ∧ w = w' := by
  obtain ⟨v, hv⟩ : ∃ v, Lib.indexByte l 10 = v := ⟨_, rfl⟩
  rw [hv]
  have HV : Hid (Lib.indexByte l ((10 : Int)).toNat.toUInt8 = v) := Lib.hid hv
  cases hq : (([10] : List UInt8) == l)
  · clear hv
    go_enter Tryd.func65, Tryd.ntmps65
    go_wp2_with fail
    refine (sixb_any l 10 _).mono ?_
    rintro e w' ⟨rfl, rfl⟩
    rw [HV.out]
    go_wp2_with fail
    go_ret
    exact ⟨rfl, rfl⟩
  · have hl : l = [10] := (show ([10] : List UInt8) = l by simpa using hq).symm
    have hv0 : Hid (v = 0) := Lib.hid (by rw [← hv, hl]; rfl)
    clear hv hl
    go_enter Tryd.func65, Tryd.ntmps65
    go_wp2_with fail
    go_ret
    exact ⟨by rw [hv0.out]; rfl, rfl⟩
/-- What Cut answers, as far as it matters. -/
def CutV (l : List UInt8) (e : Ending) : Prop := ∃ (x : List UInt8) (b : Bool), e = .returned (.tuple #[.string ⟨(l.take (lineN l)).toArray⟩, .string ⟨x.toArray⟩, .bool b])
set_option maxRecDepth 100000 in
set_option maxHeartbeats 4000000 in
theorem scut_any (l : List UInt8) (hl : l.length < 1000000) (w : World) :
    Calls Tryd.prog 54 #[.string ⟨l.toArray⟩, .string ⟨#[10]⟩] w fun e w' => CutV l e ∧ Below w.heap.size w w' := by
  have hix := indexByte_line l
  have hle := lineN_le l
  obtain ⟨n, hn⟩ : ∃ n, lineN l = n := ⟨_, rfl⟩
  rw [hn] at hix hle
  by_cases hlt : n < l.length
  · rw [if_pos hlt] at hix
    have HIX := Lib.hid hix
    obtain ⟨X, hX⟩ : ∃ X, l.take n = X := ⟨_, rfl⟩
    have hCV : Hid (∀ x b, CutV l (.returned (.tuple #[.string ⟨X.toArray⟩, .string ⟨(x : List UInt8).toArray⟩, .bool b]))) := Lib.hid (fun x b => ⟨x, b, by rw [hn, hX]⟩)
    have hex : (ByteArray.mk l.toArray).extract 0 n = ⟨X.toArray⟩ := by
      have := ba_cutn l 0 n
      rw [List.drop_zero, Nat.zero_add, hX] at this
      exact this
    have hex2 : (ByteArray.mk l.toArray).extract (n + 1) l.length = ⟨(l.drop (n + 1)).toArray⟩ := by
      have := ba_cutn l (n + 1) (l.length - (n + 1))
      rw [show n + 1 + (l.length - (n + 1)) = l.length by omega, List.take_of_length_le (by simp)] at this
      exact this
    obtain ⟨Y, hY⟩ : ∃ Y, l.drop (n + 1) = Y := ⟨_, rfl⟩
    rw [hY] at hex2
    have d1 : decide ((0 : Int) ≤ (n : Int)) = true := decide_eq_true (by omega)
    have hb1 : (n : Int) ≤ (l.length : Int) := by omega
    have q1 : IntKind.i64.wrap ((n : Int) + 1) = ((n + 1 : Nat) : Int) := by rw [IntKind.wrap_i64]; omega
    have q1b : (n : Int) + 1 = ((n + 1 : Nat) : Int) := by omega
    have hb2 : ((n + 1 : Nat) : Int) ≤ (l.length : Int) := by omega
    obtain ⟨n1, hn1⟩ : ∃ n1, n + 1 = n1 := ⟨_, rfl⟩
    rw [hn1] at hex2 q1 q1b hb2
    clear hix hn hX hY hn1
    go_enter Tryd.func54, Tryd.ntmps54
    go_wp2_with fail
    refine (index1_any l _).mono ?_
    rintro e w' ⟨rfl, rfl⟩
    rw [HIX.out]
    go_wp2_with fail
    go_quiet (fail)
    go_wp2_with fail
    go_ret3
    exact ⟨hCV.out Y true, below_drewN (Below.refl _ _) _⟩
  · rw [if_neg hlt] at hix
    have HIX := Lib.hid hix
    have d1 : decide ((0 : Int) ≤ (-1 : Int)) = false := by decide
    have hCV : Hid (CutV l (.returned (.tuple #[.string ⟨l.toArray⟩, .string ⟨#[]⟩, .bool false]))) := Lib.hid ⟨[], false, by rw [hn, List.take_of_length_le (by omega)]⟩
    clear hix hn
    go_enter Tryd.func54, Tryd.ntmps54
    go_wp2_with fail
    refine (index1_any l _).mono ?_
    rintro e w' ⟨rfl, rfl⟩
    rw [HIX.out]
    go_wp2_with fail
    go_ret3
    exact ⟨hCV.out, Below.refl _ _⟩
theorem cut_any (l : List UInt8) (hl : l.length < 1000000) (w : World) :
    Calls Tryd.prog 44 #[.string ⟨l.toArray⟩, .string ⟨#[10]⟩] w fun e w' => CutV l e ∧ Below w.heap.size w w' := by
  go_enter Tryd.func44, Tryd.ntmps44
  go_wp2_with fail
  refine (scut_any l hl _).mono ?_
  rintro e w' ⟨⟨x, b, rfl⟩, hb⟩
  go_wp2_with fail
  go_ret3
  exact ⟨⟨x, b, rfl⟩, hb⟩
end Go.Proofs.YtacceiloggnekaaDoor
