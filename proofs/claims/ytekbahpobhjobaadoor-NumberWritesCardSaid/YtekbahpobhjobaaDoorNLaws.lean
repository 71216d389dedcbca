/-
  The laws NumberReads and NumberWrites return true for every input.
-/
import Derived.Test.YtekbahpobhjobaaDoorNAwake
namespace Go.Proofs.YtekbahpobhjobaaDoor
open Go.RowKit
set_option maxRecDepth 100000 in
set_option maxHeartbeats 4000000 in
theorem reads_law (l : List UInt8) (digits : Int) (most : Nat) (hmost : most < U64) (w : World) (hNT : NTab w) :
    Calls Tryd.prog 4 #[.string ⟨l.toArray⟩, .int .i64 digits, .int .u64 (most : Int)] w fun e w' => e = .returned (.bool true) ∧ Below w.heap.size w w' := by
  by_cases hl : 300 < l.length
  · have h1 : decide ((300 : Int) < (l.length : Int)) = true := decide_eq_true (by omega)
    go_enter Tryd.func4, Tryd.ntmps4
    go_wp2_with fail
    refine (awake_any _ (by first | exact hNT | exact hNT.below hB | exact hNT.below hB.drew | exact hNT.below (by assumption))).mono ?_
    rintro y w1 ⟨rfl, hb⟩
    go_wp2_with fail
    go_ret
    exact ⟨rfl, hb⟩
  · have h1 : decide ((300 : Int) < (l.length : Int)) = false := decide_eq_false (by omega)
    have hl2 : l.length < 1000000 := by omega
    have hl3 : l.length < 100000 := by omega
    obtain ⟨d1, d2, HD⟩ : ∃ d1 d2 : Int, Hid (readV false l digits most = .tuple #[.int .u64 d1, .int .i64 d2]) := ⟨_, _, Lib.hid rfl⟩
    obtain ⟨e1, e2, HH⟩ : ∃ d1 d2 : Int, Hid (readV true l digits most = .tuple #[.int .u64 d1, .int .i64 d2]) := ⟨_, _, Lib.hid rfl⟩
    obtain ⟨s1, s2, HS⟩ : ∃ d1 d2 : Int, Hid (sameV l digits most = .tuple #[.int .u64 d1, .int .i64 d2]) := ⟨_, _, Lib.hid rfl⟩
    go_enter Tryd.func4, Tryd.ntmps4
    go_wp2_with fail
    refine (dec_any l hl2 digits most hmost _).mono ?_
    rintro y v1 ⟨rfl, hb⟩
    rw [HD.out]
    have hB := hb
    clear hb
    go_wp2_with fail
    refine (refDec_any l hl2 digits most _).mono ?_
    rintro y w' ⟨rfl, rfl⟩
    rw [HD.out]
    go_wp2_with fail
    refine (hex_any l hl2 digits most hmost _).mono ?_
    rintro y v2 ⟨rfl, hb⟩
    rw [HH.out]
    have hB := hB.trans (hb.mono hB.size)
    clear hb
    go_wp2_with fail
    refine (refHex_any l hl2 digits most _).mono ?_
    rintro y w' ⟨rfl, rfl⟩
    rw [HH.out]
    go_wp2_with fail
    refine (same_any l hl3 digits most hmost _).mono ?_
    rintro y v3 ⟨rfl, hb⟩
    rw [HS.out]
    have hB := hB.trans (hb.mono hB.size)
    clear hb
    go_wp2_with fail
    refine (refSame_any l hl3 digits most _).mono ?_
    rintro y v4 ⟨rfl, hb⟩
    rw [HS.out]
    have hB := hB.trans (hb.mono hB.size)
    clear hb
    go_wp2_with fail
    refine (awake_any _ (by first | exact hNT | exact hNT.below hB | exact hNT.below hB.drew | exact hNT.below (by assumption))).mono ?_
    rintro y v5 ⟨rfl, hb⟩
    have hB := hB.trans (hb.mono hB.size)
    clear hb
    go_wp2_with fail
    go_ret
    exact ⟨rfl, hB⟩
set_option maxRecDepth 100000 in
set_option maxHeartbeats 4000000 in
theorem writes_law (n : Nat) (hn : n < U64) (b : Nat) (hb8 : b < 256) (h : Bool) (l : List UInt8) (w : World) (hNT : NTab w) :
    Calls Tryd.prog 5 #[.int .u64 (n : Int), .int .u8 (b : Int), .bool h, .string ⟨l.toArray⟩] w fun e w' => e = .returned (.bool true) ∧ Below w.heap.size w w' := by
  by_cases hl : 300 < l.length
  · have h1 : decide ((300 : Int) < (l.length : Int)) = true := decide_eq_true (by omega)
    go_enter Tryd.func5, Tryd.ntmps5
    go_wp2_with fail
    refine (awake_any _ (by first | exact hNT | exact hNT.below hB | exact hNT.below hB.drew | exact hNT.below (by assumption))).mono ?_
    rintro y w1 ⟨rfl, hb⟩
    go_wp2_with fail
    go_ret
    exact ⟨rfl, hb⟩
  · have h1 : decide ((300 : Int) < (l.length : Int)) = false := decide_eq_false (by omega)
    have hl2 : l.length < 1000000 := by omega
    obtain ⟨g1, g2, HG⟩ : ∃ d1 d2 : Int, Hid (digitV h b = .tuple #[.int .i64 d1, .int .i64 d2]) := by
      unfold digitV
      split
      · exact ⟨_, _, Lib.hid rfl⟩
      · exact ⟨_, _, Lib.hid rfl⟩
    obtain ⟨T, HT⟩ : ∃ T, Hid (digL 10 n = T) := ⟨_, Lib.hid rfl⟩
    obtain ⟨X, HX⟩ : ∃ T, Hid (digL 16 n = T) := ⟨_, Lib.hid rfl⟩
    obtain ⟨p, HP⟩ : ∃ T, Hid (prefF h l = T) := ⟨_, Lib.hid rfl⟩
    go_enter Tryd.func5, Tryd.ntmps5
    go_wp2_with fail
    refine (digit_any b hb8 h _).mono ?_
    rintro y v1 ⟨rfl, hb⟩
    rw [HG.out]
    have hB := hb
    clear hb
    go_wp2_with fail
    refine (refDigit_any b hb8 h _).mono ?_
    rintro y w' ⟨rfl, rfl⟩
    rw [HG.out]
    go_wp2_with fail
    refine (decText_any n hn _ (by first | exact hNT | exact hNT.below hB | exact hNT.below hB.drew | exact hNT.below (by assumption))).mono ?_
    rintro y v2 ⟨rfl, hb⟩
    rw [HT.out]
    have hB := hB.trans (hb.mono hB.size)
    clear hb
    go_wp2_with fail
    refine (refDecText_any n hn _).mono ?_
    rintro y v3 ⟨rfl, hb⟩
    rw [HT.out]
    have hB := hB.trans (hb.mono hB.size)
    clear hb
    go_wp2_with fail
    refine (hexText_any n hn _ (by first | exact hNT | exact hNT.below hB | exact hNT.below hB.drew | exact hNT.below (by assumption))).mono ?_
    rintro y v4 ⟨rfl, hb⟩
    rw [HX.out]
    have hB := hB.trans (hb.mono hB.size)
    clear hb
    go_wp2_with fail
    refine (refHexText_any n hn _).mono ?_
    rintro y v5 ⟨rfl, hb⟩
    rw [HX.out]
    have hB := hB.trans (hb.mono hB.size)
    clear hb
    go_wp2_with fail
    refine (prefix_any l hl2 h _).mono ?_
    rintro y v6 ⟨rfl, hb⟩
    rw [HP.out]
    have hB := hB.trans (hb.mono hB.size)
    clear hb
    go_wp2_with fail
    refine (refPrefix_any l hl2 h _).mono ?_
    rintro y w' ⟨rfl, rfl⟩
    rw [HP.out]
    go_wp2_with fail
    refine (awake_any _ (by first | exact hNT | exact hNT.below hB | exact hNT.below hB.drew | exact hNT.below (by assumption))).mono ?_
    rintro y v7 ⟨rfl, hb⟩
    have hB := hB.trans (hb.mono hB.size)
    clear hb
    go_wp2_with fail
    go_ret
    exact ⟨rfl, hB⟩
end Go.Proofs.YtekbahpobhjobaaDoor
