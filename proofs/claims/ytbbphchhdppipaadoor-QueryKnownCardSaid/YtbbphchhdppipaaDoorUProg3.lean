/-
  The program's Check and Literal, for texts shorter than 100000 bytes.
-/
import Derived.Test.YtbbphchhdppipaaDoorUProg2
import Derived.Test.YtbbphchhdppipaaDoorURef3
namespace Go.Proofs.YtbbphchhdppipaaDoor
open Go.RowKit
attribute [local go_sem] w_0 w_1 w_2 w_3
set_option maxRecDepth 100000 in
set_option maxHeartbeats 4000000 in
theorem check_q (q : List UInt8) (hl : q.length < 100000) (w : World) :
    Calls Tryd.prog 15 #[.string ⟨q.toArray⟩] w fun e w' => e = .returned (.int .i64 (chkN q : Nat)) ∧ Below w.heap.size w w' := by
  obtain ⟨a, b, c, d, hs⟩ : ∃ a b c d, Hid (qryS = ⟨a, b, c, d⟩) := ⟨_, _, _, _, Lib.hid rfl⟩
  have HI : Hid (∀ W, Calls Tryd.prog 45 #[] W fun e w' => e = .returned (WSet.mk a b c d).v ∧ Below W.heap.size W w') := Lib.hid fun W => inq_any a b c d hs W
  obtain ⟨r, hr⟩ : ∃ r, (q.all fun x => (WSet.mk a b c d).has x.toNat) = r := ⟨_, rfl⟩
  have HA : Hid (∀ W, Calls Tryd.prog 44 #[.agg #[.int .u64 a.toNat, .int .u64 b.toNat, .int .u64 c.toNat, .int .u64 d.toNat], .string ⟨q.toArray⟩] W fun e w' => e = .returned (.bool r) ∧ Below W.heap.size W w') := Lib.hid fun W => by
    have h := tall_any a b c d q (by unfold maxLen; omega) W
    rw [hr] at h
    exact h
  rw [← hs.out] at hr
  by_cases h1 : 128 < q.length
  · have d1 : decide ((128 : Int) < (q.length : Int)) = true := decide_eq_true (by omega)
    have HR := Lib.hid (chk_long h1)
    clear h1 hr hs
    go_enter Tryd.func15, Tryd.ntmps15
    go_wp2_with fail
    go_ret
    exact ⟨by rw [HR.out]; rfl, Below.refl _ _⟩
  · have d1 : decide ((128 : Int) < (q.length : Int)) = false := decide_eq_false (by omega)
    cases r with
    | true =>
      have HR := Lib.hid (chk_ok h1 hr)
      clear h1 hr hs
      go_enter Tryd.func15, Tryd.ntmps15
      go_wp2_with fail
      refine (HI.out _).mono ?_
      rintro e w1 ⟨rfl, hb1⟩
      go_wp2_with fail
      refine (HA.out _).mono ?_
      rintro e w2 ⟨rfl, hb2⟩
      go_wp2_with fail
      go_ret
      exact ⟨by rw [HR.out]; rfl, hb1.trans (hb2.mono hb1.size)⟩
    | false =>
      have HR := Lib.hid (chk_bad h1 hr)
      clear h1 hr hs
      go_enter Tryd.func15, Tryd.ntmps15
      go_wp2_with fail
      refine (HI.out _).mono ?_
      rintro e w1 ⟨rfl, hb1⟩
      go_wp2_with fail
      refine (HA.out _).mono ?_
      rintro e w2 ⟨rfl, hb2⟩
      go_wp2_with fail
      go_ret
      exact ⟨by rw [HR.out]; rfl, hb1.trans (hb2.mono hb1.size)⟩
set_option maxRecDepth 100000 in
set_option maxHeartbeats 4000000 in
theorem literal_q (l : List UInt8) (hl : l.length < 100000) (w : World) :
    Calls Tryd.prog 17 #[.string ⟨l.toArray⟩] w fun e w' => e = .returned (.int .i64 (litN l : Nat)) ∧ Below w.heap.size w w' := by
  obtain ⟨a, b, c, d, hs⟩ : ∃ a b c d, Hid (stayS = ⟨a, b, c, d⟩) := ⟨_, _, _, _, Lib.hid rfl⟩
  obtain ⟨m0, m1, m2, m3, hm⟩ : ∃ a b c d, Hid (mkS = ⟨a, b, c, d⟩) := ⟨_, _, _, _, Lib.hid rfl⟩
  obtain ⟨s0, s1, s2, s3, ht⟩ : ∃ a b c d, Hid (litS = ⟨a, b, c, d⟩) := ⟨_, _, _, _, Lib.hid rfl⟩
  have HST : Hid (∀ W, Calls Tryd.prog 11 #[] W fun e w' => e = .returned (WSet.mk a b c d).v ∧ Below W.heap.size W w') := Lib.hid fun W => stay_any a b c d hs W
  have HM : Hid (∀ (W : World) (B : Nat) (fr : Nat × Nat), W.heap[B]? = some (.cells #[.int .u8 38, .int .u8 61, .int .u8 43, .int .u8 59, .int .u8 37] 5 fr) → Calls Tryd.prog 37 #[.slice (some ⟨B, 0, none⟩) 5 5] W fun e w' => e = .returned (WSet.mk m0 m1 m2 m3).v ∧ Below W.heap.size W w') := Lib.hid fun W B fr hk => mk_of m0 m1 m2 m3 hm W B fr hk
  have HU : Hid (∀ W : World, Calls Tryd.prog 46 #[.slice (some ⟨W.heap.size, 0, none⟩) 2 2] (W.alloc (.cells #[.int .u64 a.toNat, .int .u64 b.toNat, .int .u64 c.toNat, .int .u64 d.toNat, .int .u64 m0.toNat, .int .u64 m1.toNat, .int .u64 m2.toNat, .int .u64 m3.toNat] 25)) fun e w' => e = .returned (WSet.mk s0 s1 s2 s3).v ∧ Below W.heap.size W w') := Lib.hid fun W => by
    have h := union2 a b c d m0 m1 m2 m3 W
    rw [← hs.out, ← hm.out, mkS_or, ht.out] at h
    exact h
  obtain ⟨r, hr⟩ : ∃ r, (l.all fun x => (WSet.mk s0 s1 s2 s3).has x.toNat) = r := ⟨_, rfl⟩
  have HA : Hid (∀ W, Calls Tryd.prog 44 #[.agg #[.int .u64 s0.toNat, .int .u64 s1.toNat, .int .u64 s2.toNat, .int .u64 s3.toNat], .string ⟨l.toArray⟩] W fun e w' => e = .returned (.bool r) ∧ Below W.heap.size W w') := Lib.hid fun W => by
    have h := tall_any s0 s1 s2 s3 l (by unfold maxLen; omega) W
    rw [hr] at h
    exact h
  rw [← ht.out] at hr
  have kc := fun (w : World) (C : Array Value) (n c : Nat) => Lib.run_convert_bytes_const (P := Tryd.prog) w 53 5 C n c Tryd.underlying53 Tryd.underlying5
  cases r with
  | false =>
    have HR := Lib.hid (lit_bad (s := l) (.inr hr))
    clear hr hs hm ht
    go_enter Tryd.func17, Tryd.ntmps17
    go_wp2_with fail
    refine (HST.out _).mono ?_
    rintro e w1 ⟨rfl, hb1⟩
    go_wp2_with fail
    refine (HM.out _ _ _ (heap_alloc_new _ _)).mono ?_
    rintro e w2 ⟨rfl, hb2⟩
    have hB2 : Below w.heap.size w w2 := (hb1.alloc hb1.size _).trans (hb2.mono (by have := hb1.size; simp; omega))
    go_wp2_with fail
    refine (HU.out _).mono ?_
    rintro e w3 ⟨rfl, hb3⟩
    have hB3 := hB2.trans (hb3.mono hB2.size)
    go_wp2_with fail
    refine (HA.out _).mono ?_
    rintro e w4 ⟨rfl, hb4⟩
    have hB4 := hB3.trans (hb4.mono hB3.size)
    go_wp2_with fail
    go_ret
    exact ⟨by rw [HR.out]; rfl, hB4⟩
  | true =>
    obtain ⟨x, hx⟩ : ∃ x : Int, (if okE l then 0 else 3) = x := ⟨_, rfl⟩
    have HE : Hid (∀ W, Calls Tryd.prog 47 #[.string ⟨l.toArray⟩] W fun e w' => (∃ n j : Int, e = .returned (.tuple #[.int .i64 n, .agg #[.int .i64 x, .int .i64 j]])) ∧ Below W.heap.size W w') := Lib.hid fun W => by
      have h := escapes_any l (by omega) W
      rw [hx] at h
      exact h
    have HR : Hid ((litN l : Int) = x) := Lib.hid (by
      rw [← hx]
      unfold litN
      rw [hr, Bool.and_true]
      split <;> rfl)
    clear hr hs hm ht hx
    go_enter Tryd.func17, Tryd.ntmps17
    go_wp2_with fail
    refine (HST.out _).mono ?_
    rintro e w1 ⟨rfl, hb1⟩
    go_wp2_with fail
    refine (HM.out _ _ _ (heap_alloc_new _ _)).mono ?_
    rintro e w2 ⟨rfl, hb2⟩
    have hB2 : Below w.heap.size w w2 := (hb1.alloc hb1.size _).trans (hb2.mono (by have := hb1.size; simp; omega))
    go_wp2_with fail
    refine (HU.out _).mono ?_
    rintro e w3 ⟨rfl, hb3⟩
    have hB3 := hB2.trans (hb3.mono hB2.size)
    go_wp2_with fail
    refine (HA.out _).mono ?_
    rintro e w4 ⟨rfl, hb4⟩
    have hB4 := hB3.trans (hb4.mono hB3.size)
    clear hb1 hb2 hb3 hb4 hB2 hB3
    go_wp2_with fail
    refine (HE.out _).mono ?_
    rintro e w5 ⟨⟨n, j, rfl⟩, hb5⟩
    have hB5 := hB4.trans (hb5.mono hB4.size)
    have hB6 := hB5.alloc hB5.size (.cells #[.int .i64 x, .int .i64 j] 48)
    go_wp2_with fail
    go_ret
    exact ⟨by rw [HR.out]; rfl, hB6⟩
end Go.Proofs.YtbbphchhdppipaaDoor
