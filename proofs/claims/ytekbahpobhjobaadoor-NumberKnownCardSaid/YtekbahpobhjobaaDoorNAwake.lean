/-
  The law text's own dec, hex, same and awake.
-/
import Derived.Test.YtekbahpobhjobaaDoorNProg
namespace Go.Proofs.YtekbahpobhjobaaDoor
open Go.RowKit
def decB (h : Bool) (l : List UInt8) (digits : Int) (most want e : Nat) : Bool := (readR h l digits most).1 == want && (readR h l digits most).2 == e
def sameB (l : List UInt8) (want e : Nat) : Bool := (sameR l 2 99).1 == want && (sameR l 2 99).2 == e
set_option maxHeartbeats 1000000 in
theorem ldec_any (l : List UInt8) (hl : l.length < 100000) (digits : Int) (most : Nat) (hmost : most < U64) (want : Nat) (e : Nat) (w : World) :
    Calls Tryd.prog 9 #[.string ⟨l.toArray⟩, .int .i64 digits, .int .u64 (most : Int), .int .u64 (want : Int), .int .i64 (e : Int)] w fun y w' => y = .returned (.bool (decB false l digits most want e)) ∧ Below w.heap.size w w' := by
  obtain ⟨n, x, hr⟩ : ∃ n x : Nat, readR false l digits most = (n, x) := ⟨_, _, rfl⟩
  have HR : Hid (readV false l digits most = .tuple #[.int .u64 (n : Nat), .int .i64 (x : Nat)]) := Lib.hid (by unfold readV; rw [hr])
  have HB : Hid (decB false l digits most want e = (n == want && x == e)) := Lib.hid (by unfold decB; rw [hr])
  clear hr
  by_cases h1 : n = want
  · have a1 : ((n : Int) == (want : Int)) = true := by rw [beq_iff_eq]; omega
    have b1 : (n == want) = true := by rw [beq_iff_eq]; exact h1
    by_cases h2 : x = e
    · have a2 : ((x : Int) == (e : Int)) = true := by rw [beq_iff_eq]; omega
      have hres : Hid (decB false l digits most want e = true) := Lib.hid (by rw [HB.out, b1, h2]; simp)
      subst h1 h2
      clear a1 a2 b1
      go_enter Tryd.func9, Tryd.ntmps9
      go_wp2_with fail
      refine (dec_any l (by omega) digits most hmost _).mono ?_
      rintro y w' ⟨rfl, hb⟩
      rw [HR.out]
      go_wp2_with fail
      go_ret
      exact ⟨by rw [hres.out]; rfl, hb⟩
    · have a2 : ((x : Int) == (e : Int)) = false := by rw [beq_eq_false_iff_ne]; omega
      have a3 : (x == e) = false := by rw [beq_eq_false_iff_ne]; exact h2
      have hres : Hid (decB false l digits most want e = false) := Lib.hid (by rw [HB.out, a3, Bool.and_false])
      subst h1
      clear a1 b1 h2
      go_enter Tryd.func9, Tryd.ntmps9
      go_wp2_with fail
      refine (dec_any l (by omega) digits most hmost _).mono ?_
      rintro y w' ⟨rfl, hb⟩
      rw [HR.out]
      go_wp2_with fail
      go_ret
      exact ⟨by rw [hres.out]; rfl, hb⟩
  · have a1 : ((n : Int) == (want : Int)) = false := by rw [beq_eq_false_iff_ne]; omega
    have b1 : (n == want) = false := by rw [beq_eq_false_iff_ne]; exact h1
    have hres : Hid (decB false l digits most want e = false) := Lib.hid (by rw [HB.out, b1, Bool.false_and])
    clear h1
    go_enter Tryd.func9, Tryd.ntmps9
    go_wp2_with fail
    refine (dec_any l (by omega) digits most hmost _).mono ?_
    rintro y w' ⟨rfl, hb⟩
    rw [HR.out]
    go_wp2_with fail
    go_ret
    exact ⟨by rw [hres.out]; rfl, hb⟩
set_option maxHeartbeats 1000000 in
theorem lhex_any (l : List UInt8) (hl : l.length < 100000) (digits : Int) (most : Nat) (hmost : most < U64) (want : Nat) (e : Nat) (w : World) :
    Calls Tryd.prog 10 #[.string ⟨l.toArray⟩, .int .i64 digits, .int .u64 (most : Int), .int .u64 (want : Int), .int .i64 (e : Int)] w fun y w' => y = .returned (.bool (decB true l digits most want e)) ∧ Below w.heap.size w w' := by
  obtain ⟨n, x, hr⟩ : ∃ n x : Nat, readR true l digits most = (n, x) := ⟨_, _, rfl⟩
  have HR : Hid (readV true l digits most = .tuple #[.int .u64 (n : Nat), .int .i64 (x : Nat)]) := Lib.hid (by unfold readV; rw [hr])
  have HB : Hid (decB true l digits most want e = (n == want && x == e)) := Lib.hid (by unfold decB; rw [hr])
  clear hr
  by_cases h1 : n = want
  · have a1 : ((n : Int) == (want : Int)) = true := by rw [beq_iff_eq]; omega
    have b1 : (n == want) = true := by rw [beq_iff_eq]; exact h1
    by_cases h2 : x = e
    · have a2 : ((x : Int) == (e : Int)) = true := by rw [beq_iff_eq]; omega
      have hres : Hid (decB true l digits most want e = true) := Lib.hid (by rw [HB.out, b1, h2]; simp)
      subst h1 h2
      clear a1 a2 b1
      go_enter Tryd.func10, Tryd.ntmps10
      go_wp2_with fail
      refine (hex_any l (by omega) digits most hmost _).mono ?_
      rintro y w' ⟨rfl, hb⟩
      rw [HR.out]
      go_wp2_with fail
      go_ret
      exact ⟨by rw [hres.out]; rfl, hb⟩
    · have a2 : ((x : Int) == (e : Int)) = false := by rw [beq_eq_false_iff_ne]; omega
      have a3 : (x == e) = false := by rw [beq_eq_false_iff_ne]; exact h2
      have hres : Hid (decB true l digits most want e = false) := Lib.hid (by rw [HB.out, a3, Bool.and_false])
      subst h1
      clear a1 b1 h2
      go_enter Tryd.func10, Tryd.ntmps10
      go_wp2_with fail
      refine (hex_any l (by omega) digits most hmost _).mono ?_
      rintro y w' ⟨rfl, hb⟩
      rw [HR.out]
      go_wp2_with fail
      go_ret
      exact ⟨by rw [hres.out]; rfl, hb⟩
  · have a1 : ((n : Int) == (want : Int)) = false := by rw [beq_eq_false_iff_ne]; omega
    have b1 : (n == want) = false := by rw [beq_eq_false_iff_ne]; exact h1
    have hres : Hid (decB true l digits most want e = false) := Lib.hid (by rw [HB.out, b1, Bool.false_and])
    clear h1
    go_enter Tryd.func10, Tryd.ntmps10
    go_wp2_with fail
    refine (hex_any l (by omega) digits most hmost _).mono ?_
    rintro y w' ⟨rfl, hb⟩
    rw [HR.out]
    go_wp2_with fail
    go_ret
    exact ⟨by rw [hres.out]; rfl, hb⟩
set_option maxHeartbeats 1000000 in
theorem lsame_any (l : List UInt8) (hl : l.length < 100000) (want : Nat) (e : Nat) (w : World) :
    Calls Tryd.prog 12 #[.string ⟨l.toArray⟩, .int .u64 (want : Int), .int .i64 (e : Int)] w fun y w' => y = .returned (.bool (sameB l want e)) ∧ Below w.heap.size w w' := by
  obtain ⟨n, x, hr⟩ : ∃ n x : Nat, sameR l 2 99 = (n, x) := ⟨_, _, rfl⟩
  have HR : Hid (sameV l 2 99 = .tuple #[.int .u64 (n : Nat), .int .i64 (x : Nat)]) := Lib.hid (by unfold sameV; rw [hr])
  have HB : Hid (sameB l want e = (n == want && x == e)) := Lib.hid (by unfold sameB; rw [hr])
  clear hr
  by_cases h1 : n = want
  · have a1 : ((n : Int) == (want : Int)) = true := by rw [beq_iff_eq]; omega
    have b1 : (n == want) = true := by rw [beq_iff_eq]; exact h1
    by_cases h2 : x = e
    · have a2 : ((x : Int) == (e : Int)) = true := by rw [beq_iff_eq]; omega
      have hres : Hid (sameB l want e = true) := Lib.hid (by rw [HB.out, b1, h2]; simp)
      subst h1 h2
      clear a1 a2 b1
      go_enter Tryd.func12, Tryd.ntmps12
      go_wp2_with fail
      refine (same_any l hl 2 99 (by unfold U64; omega) _).mono ?_
      rintro y w' ⟨rfl, hb⟩
      rw [HR.out]
      go_wp2_with fail
      go_ret
      exact ⟨by rw [hres.out]; rfl, hb⟩
    · have a2 : ((x : Int) == (e : Int)) = false := by rw [beq_eq_false_iff_ne]; omega
      have a3 : (x == e) = false := by rw [beq_eq_false_iff_ne]; exact h2
      have hres : Hid (sameB l want e = false) := Lib.hid (by rw [HB.out, a3, Bool.and_false])
      subst h1
      clear a1 b1 h2
      go_enter Tryd.func12, Tryd.ntmps12
      go_wp2_with fail
      refine (same_any l hl 2 99 (by unfold U64; omega) _).mono ?_
      rintro y w' ⟨rfl, hb⟩
      rw [HR.out]
      go_wp2_with fail
      go_ret
      exact ⟨by rw [hres.out]; rfl, hb⟩
  · have a1 : ((n : Int) == (want : Int)) = false := by rw [beq_eq_false_iff_ne]; omega
    have b1 : (n == want) = false := by rw [beq_eq_false_iff_ne]; exact h1
    have hres : Hid (sameB l want e = false) := Lib.hid (by rw [HB.out, b1, Bool.false_and])
    clear h1
    go_enter Tryd.func12, Tryd.ntmps12
    go_wp2_with fail
    refine (same_any l hl 2 99 (by unfold U64; omega) _).mono ?_
    rintro y w' ⟨rfl, hb⟩
    rw [HR.out]
    go_wp2_with fail
    go_ret
    exact ⟨by rw [hres.out]; rfl, hb⟩
theorem aw1 : decB false [49, 50] 2 99 12 0 = true := by decide +kernel
theorem aw2 : decB false [48, 49, 50] 2 99 0 4 = true := by decide +kernel
theorem aw3 : decB true [102, 70] 2 255 255 0 = true := by decide +kernel
theorem aw4 : digL 10 0 = [48] := by decide +kernel
theorem aw5 : digL 16 255 = [102, 102] := by decide +kernel
set_option maxHeartbeats 2000000 in
theorem awake_any (w : World) (hNT : NTab w) :
    Calls Tryd.prog 13 #[] w fun e w' => e = .returned (.bool true) ∧ Below w.heap.size w w' := by
  go_enter Tryd.func13, Tryd.ntmps13
  go_wp2_with fail
  refine (ldec_any [49, 50] (by decide) 2 99 (by unfold U64; omega) 12 0 _).mono ?_
  rintro y w1 ⟨rfl, hB⟩
  rw [aw1]
  go_wp2_with fail
  refine (ldec_any [48, 49, 50] (by decide) 2 99 (by unfold U64; omega) 0 4 _).mono ?_
  rintro y w2 ⟨rfl, hb⟩
  rw [aw2]
  have hB := hB.trans (hb.mono hB.size)
  clear hb
  go_wp2_with fail
  refine (lhex_any [102, 70] (by decide) 2 255 (by unfold U64; omega) 255 0 _).mono ?_
  rintro y w3 ⟨rfl, hb⟩
  rw [aw3]
  have hB := hB.trans (hb.mono hB.size)
  clear hb
  go_wp2_with fail
  refine (decText_any 0 (by unfold U64; omega) _ (by first | exact hNT | exact hNT.below hB | exact hNT.below hB.drew | exact hNT.below (by assumption))).mono ?_
  rintro y w4 ⟨rfl, hb⟩
  rw [aw4]
  have hB := hB.trans (hb.mono hB.size)
  clear hb
  go_wp2_with fail
  refine (hexText_any 255 (by unfold U64; omega) _ (by first | exact hNT | exact hNT.below hB | exact hNT.below hB.drew | exact hNT.below (by assumption))).mono ?_
  rintro y w5 ⟨rfl, hb⟩
  rw [aw5]
  have hB := hB.trans (hb.mono hB.size)
  clear hb
  go_wp2_with fail
  go_ret
  exact ⟨rfl, hB⟩
end Go.Proofs.YtekbahpobhjobaaDoor
