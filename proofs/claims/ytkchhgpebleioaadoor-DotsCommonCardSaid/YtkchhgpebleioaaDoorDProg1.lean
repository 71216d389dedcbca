/-
  The program's small functions: what is a path, open, a dot segment, a name; parts, withoutTop, and build, for every text shorter than 1000000 bytes.
-/
import Derived.Test.YtkchhgpebleioaaDoorDIter
import Derived.Test.YtkchhgpebleioaaDoorDBuild
import Derived.Test.YtkchhgpebleioaaDoorDPure2
namespace Go.Proofs.YtkchhgpebleioaaDoor
open Go.RowKit
theorem path_prefix (p : List UInt8) : ([47] : List UInt8).isPrefixOf p = pathB p := by
  cases p with
  | nil => rfl
  | cons c r =>
    show ((47 == c) && true) = (c.toNat == 47)
    rw [Bool.and_true, Bool.eq_iff_iff, beq_iff_eq, beq_iff_eq]
    constructor
    · rintro rfl
      rfl
    · intro h
      exact (UInt8.toNat_inj.1 h).symm
set_option maxHeartbeats 1000000 in
theorem isPath_any (p : List UInt8) (w : World) :
    Calls Tryd.prog 36 #[.string ⟨p.toArray⟩] w fun e w' => e = .returned (.bool (pathB p)) ∧ w = w' := by
  have HP := Lib.hid (path_prefix p)
  go_enter Tryd.func36, Tryd.ntmps36
  go_wp2_with fail
  refine (prefix_any p [47] _).mono ?_
  rintro e w' ⟨rfl, rfl⟩
  rw [HP.out]
  go_wp2_with fail
  go_ret
  exact ⟨rfl, rfl⟩
set_option maxHeartbeats 1000000 in
theorem isOpen_any (p : List UInt8) (hl : p.length < 1000000) (w : World) :
    Calls Tryd.prog 62 #[.string ⟨p.toArray⟩] w fun e w' => e = .returned (.bool (openB p)) ∧ w = w' := by
  have HP : Hid (([47] : List UInt8).isSuffixOf p = openB p) := Lib.hid rfl
  go_enter Tryd.func62, Tryd.ntmps62
  go_wp2_with fail
  refine (suffix_any p [47] hl _).mono ?_
  rintro e w' ⟨rfl, rfl⟩
  rw [HP.out]
  go_wp2_with fail
  go_ret
  exact ⟨rfl, rfl⟩
set_option maxHeartbeats 1000000 in
theorem isDots_any (x : List UInt8) (w : World) :
    Calls Tryd.prog 39 #[.string ⟨x.toArray⟩] w fun e w' => e = .returned (.bool (dotB x)) ∧ w = w' := by
  obtain ⟨a, ha⟩ : ∃ a, (x == [46]) = a := ⟨_, rfl⟩
  obtain ⟨b, hb⟩ : ∃ b, (x == [46, 46]) = b := ⟨_, rfl⟩
  have HD : Hid (dotB x = (a || b)) := Lib.hid (by unfold dotB; rw [ha, hb])
  cases a <;> cases b <;>
  · go_enter Tryd.func39, Tryd.ntmps39
    go_wp2_with fail
    go_ret
    exact ⟨by rw [HD.out]; rfl, rfl⟩
theorem index_contains : ∀ l : List UInt8, decide (0 ≤ Lib.indexByte l 47) = l.contains 47
  | [] => rfl
  | c :: r => by
    have ih := index_contains r
    have hg := Lib.indexByte_ge r 47
    unfold Lib.indexByte
    rw [List.contains_cons]
    by_cases hc : c = 47
    · subst hc
      simp
    · rw [show (c == 47) = false by simpa using hc, show (47 == c) = false by simpa using fun e => hc e.symm, Bool.false_or, ← ih]
      by_cases h : Lib.indexByte r 47 = -1
      · rw [h]; rfl
      · rw [if_neg (by simp), if_neg (by simpa using h)]
        rw [decide_eq_decide]
        omega
set_option maxHeartbeats 1000000 in
theorem isName_any (x : List UInt8) (w : World) :
    Calls Tryd.prog 45 #[.string ⟨x.toArray⟩] w fun e w' => e = .returned (.bool (nameB x)) ∧ w = w' := by
  have HC := Lib.hid (index_contains x)
  obtain ⟨a, ha⟩ : ∃ a, (x == []) = a := ⟨_, rfl⟩
  obtain ⟨b, hb⟩ : ∃ b, x.contains 47 = b := ⟨_, rfl⟩
  obtain ⟨c, hc⟩ : ∃ c, dotB x = c := ⟨_, rfl⟩
  have ha2 : (x != []) = !a := by rw [← ha]; rfl
  have HN : Hid (nameB x = (!a && !b && !c)) := Lib.hid (by unfold nameB; rw [ha, hb, hc])
  have HB := Lib.hid hb
  have HD := Lib.hid hc
  clear hb hc
  cases a with
  | true =>
    go_enter Tryd.func45, Tryd.ntmps45
    go_wp2_with fail
    go_ret
    exact ⟨by rw [HN.out]; rfl, rfl⟩
  | false =>
    cases b with
    | true =>
      go_enter Tryd.func45, Tryd.ntmps45
      go_wp2_with fail
      refine (contains1_any x _).mono ?_
      rintro e w' ⟨rfl, rfl⟩
      rw [HC.out, HB.out]
      go_wp2_with fail
      go_ret
      exact ⟨by rw [HN.out]; rfl, rfl⟩
    | false =>
      cases c <;>
      · go_enter Tryd.func45, Tryd.ntmps45
        go_wp2_with fail
        refine (contains1_any x _).mono ?_
        rintro e w' ⟨rfl, rfl⟩
        rw [HC.out, HB.out]
        go_wp2_with fail
        refine (isDots_any x _).mono ?_
        rintro e w' ⟨rfl, rfl⟩
        rw [HD.out]
        go_wp2_with fail
        go_ret
        exact ⟨by rw [HN.out]; rfl, rfl⟩
set_option maxHeartbeats 1000000 in
theorem parts_any (p : List UInt8) (hp : 0 < p.length) (hl : p.length < 1000000) (w : World) :
    Calls Tryd.prog 38 #[.string ⟨p.toArray⟩] w fun e w' => e = .returned (.func (.func 74) #[] #[.pointer (some ⟨w.heap.size + 1, 0, none⟩), .pointer (some ⟨w.heap.size, 0, none⟩), .pointer (some ⟨w.heap.size + 2, 0, none⟩)]) ∧
      w' = ((w.alloc (.cells #[.string ⟨(p.drop 1).toArray⟩] 9)).alloc (.cells #[.string ⟨#[47]⟩] 9)).alloc (.cells #[.int .i64 0] 3) := by
  have e2 := ba_snd p 1
  have hb : (1 : Int) ≤ (p.length : Int) := by omega
  obtain ⟨X, hX⟩ : ∃ X, p.drop 1 = X := ⟨_, rfl⟩
  rw [hX] at e2 ⊢
  clear hX
  go_enter Tryd.func38, Tryd.ntmps38
  go_wp2_with fail
  refine (splitSeq_any X _).mono ?_
  rintro e w' ⟨rfl, rfl⟩
  go_wp2_with fail
  go_ret
  exact ⟨rfl, rfl⟩
set_option maxHeartbeats 1000000 in
theorem withoutTop_any (p : Option Addr) (n m c : Nat) (hm : m = n + 1) (hc : m ≤ c) (hs : m < 1000000) (hp : p ≠ none) (w : World) :
    Calls Tryd.prog 40 #[.slice p m c] w fun e w' => e = .returned (.slice p n c) ∧ w = w' := by
  cases p with
  | none => exact absurd rfl hp
  | some ad =>
    have q1 : IntKind.i64.wrap ((m : Int) - 1) = (n : Int) := by rw [IntKind.wrap_i64]; omega
    have q3 : (n : Int) ≤ (c : Int) := by omega
    have q4 : n ≤ c := by omega
    have q5 : m - 1 = n := by omega
    clear hm hp
    go_enter Tryd.func40, Tryd.ntmps40
    go_wp2_with fail
    go_ret
    exact ⟨rfl, rfl⟩
end Go.Proofs.YtkchhgpebleioaaDoor
