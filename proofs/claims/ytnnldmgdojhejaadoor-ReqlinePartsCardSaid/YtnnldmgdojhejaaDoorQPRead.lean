/-
  The reader of package reqline: readMethod, readTarget, readVersion.
-/
import Derived.Test.YtnnldmgdojhejaaDoorQPCur
import Derived.Test.YtnnldmgdojhejaaDoorQPLead
import Derived.Test.YtnnldmgdojhejaaDoorTQCut
namespace Go.Proofs.YtnnldmgdojhejaaDoor
open Go.RowKit
def rdM (l : List UInt8) : Bool × Nat × List UInt8 := if pre l = 0 then (false, 0, []) else (decide (mtN [32] (l.drop (pre l)) = 1), pre l + mtN [32] (l.drop (pre l)), l.take (pre l))
def tEnd (l : List UInt8) (k : Nat) : Nat := k + 1 + ldN (l.drop (k + 1))
def rdT (l : List UInt8) (k : Nat) : Bool × Nat × List UInt8 := if mtN [47] (l.drop k) = 1 then (decide (mtN [32] (l.drop (tEnd l k)) = 1), tEnd l k + mtN [32] (l.drop (tEnd l k)), (l.take (tEnd l k)).drop k) else (false, k, [])
def rdV (l : List UInt8) (k : Nat) : Bool × Nat := (decide (mtN verT (l.drop k) = 8) && (l.drop (k + mtN verT (l.drop k))).isEmpty, k + mtN verT (l.drop k))
set_option maxHeartbeats 2000000 in
theorem readMethod_any (l : List UInt8) (hl : l.length < 1000000) (W : World) (B : Nat) (h : RB W B l 0 [] []) :
    Calls Tryd.prog 20 #[.pointer (some ⟨B, 0, none⟩)] W fun e w' => e = .returned (.bool (rdM l).1) ∧ RB w' B l (rdM l).2.1 (rdM l).2.2 [] ∧ Below B W w' := by
  have HC := Lib.hid fun W => tcut_any l hl W
  have hN := pre_le l
  have hM1 := mtN_le [32] (l.drop (pre l))
  have HE := Lib.hid fun k hk m t W h => expect_any l [32] (by decide) hl k hk m t W B h
  have HP := Lib.hid fun n hn W h => pass_any l 0 n (by omega) hn [] [] W B h
  have HL : Hid (∀ W, RB W B l 0 [] [] → Calls Tryd.prog 27 #[.pointer (some ⟨B, 0, none⟩)] W fun e w' => e = .returned (.string ⟨l.toArray⟩) ∧ Below W.heap.size W w') := Lib.hid fun W h => left_any l 0 (Nat.zero_le _) [] [] W B h
  by_cases h0 : pre l = 0
  · have HV : Hid (cutV l = .tuple #[.string ⟨#[]⟩, .string ⟨#[]⟩, .int .i64 6]) := Lib.hid (by unfold cutV cutR; rw [if_pos h0]; rfl)
    have HR : Hid (rdM l = (false, 0, [])) := Lib.hid (by unfold rdM; rw [if_pos h0])
    clear h0 hN hM1
    go_enter Tryd.func20, Tryd.ntmps20
    go_wp2_with fail
    refine (HL.out _ h).mono ?_
    rintro e w1 ⟨rfl, hb⟩
    have h1 := h.below hb h.lt
    have hB1 := Below.mono hb (Nat.le_of_lt h.lt)
    clear hb
    go_wp2_with fail
    refine (HC.out _).mono ?_
    rintro e w2 ⟨rfl, hb⟩
    rw [HV.out]
    have h2 := h1.below hb h1.lt
    have hB2 := hB1.trans (Below.mono hb (Nat.le_of_lt h1.lt))
    clear hb
    go_wp2_with fail
    go_ret
    exact ⟨by rw [HR.out]; rfl, by rw [HR.out]; exact h2, hB2⟩
  · obtain ⟨q, hq⟩ : ∃ q, l.take (pre l) = q := ⟨_, rfl⟩
    obtain ⟨r, hr⟩ : ∃ r, l.drop (pre l) = r := ⟨_, rfl⟩
    have hql : q.length = pre l := by rw [← hq, List.length_take]; omega
    have HV : Hid (cutV l = .tuple #[.string ⟨q.toArray⟩, .string ⟨r.toArray⟩, .int .i64 0]) := Lib.hid (by unfold cutV cutR; rw [if_neg h0, hq, hr]; rfl)
    have HR : Hid (rdM l = (decide (mtN [32] r = 1), q.length + mtN [32] r, q)) := Lib.hid (by unfold rdM; rw [if_neg h0, hq, hr, hql])
    have hrl : l.drop q.length = r := by rw [hql, hr]
    have hle : q.length ≤ l.length := by omega
    have HE2 : Hid (∀ W, RB W B l q.length q [] → Calls Tryd.prog 29 #[.pointer (some ⟨B, 0, none⟩), .string ⟨#[32]⟩] W fun e w' => e = .returned (.bool (decide (mtN [32] r = 1))) ∧ RB w' B l (q.length + mtN [32] r) q [] ∧ Below B W w') := Lib.hid fun W h => by
      have := HE.out q.length hle q [] W h
      rw [hrl] at this
      exact this
    have HP2 : Hid (∀ W, RB W B l 0 [] [] → Calls Tryd.prog 28 #[.pointer (some ⟨B, 0, none⟩), .int .i64 (q.length : Int)] W fun e w' => e = .returned (.tuple #[]) ∧ RB w' B l q.length [] [] ∧ Below B W w') := Lib.hid fun W h => by
      have := HP.out q.length (by omega) W h
      rw [Nat.zero_add] at this
      exact this
    clear h0 hN hM1 hq hr hql hrl hle HE HP
    go_enter Tryd.func20, Tryd.ntmps20
    go_wp2_with fail
    refine (HL.out _ h).mono ?_
    rintro e w1 ⟨rfl, hb⟩
    have h1 := h.below hb h.lt
    have hB1 := Below.mono hb (Nat.le_of_lt h.lt)
    clear hb
    go_wp2_with fail
    refine (HC.out _).mono ?_
    rintro e w2 ⟨rfl, hb⟩
    rw [HV.out]
    have h2 := h1.below hb h1.lt
    have hB2 := hB1.trans (Below.mono hb (Nat.le_of_lt h1.lt))
    clear hb
    go_wp2_with fail
    refine (HP2.out _ h2).mono ?_
    rintro e w3 ⟨rfl, h3, hb⟩
    have hB3 := hB2.trans hb
    clear hb
    obtain ⟨c0, c1, c2, c3⟩ := h3.cells
    obtain ⟨f0, f1, f2, f3⟩ := h3.frees
    have h4 := h3.method q
    have hB4 := hB3.setCell (p := ⟨B, 2, none⟩) (Nat.le_refl _) (.string ⟨q.toArray⟩)
    go_wp2_with fail
    refine (HE2.out _ h4).mono ?_
    rintro e w5 ⟨rfl, h5, hb⟩
    go_wp2_with fail
    go_ret
    exact ⟨by rw [HR.out]; rfl, by rw [HR.out]; exact h5, hB4.trans hb⟩
theorem mt1 (c : UInt8) (r : List UInt8) : mtN [c] r = 0 ∨ mtN [c] r = 1 := by
  have := mtN_le [c] r
  simp at this
  omega
set_option maxHeartbeats 4000000 in
theorem readTarget_any (l : List UInt8) (hl : l.length < 1000000) (k : Nat) (hk : k ≤ l.length) (m : List UInt8) (W : World) (B : Nat) (h : RB W B l k m []) :
    Calls Tryd.prog 21 #[.pointer (some ⟨B, 0, none⟩)] W fun e w' => e = .returned (.bool (rdT l k).1) ∧ RB w' B l (rdT l k).2.1 m (rdT l k).2.2 ∧ Below B W w' := by
  have HE := Lib.hid fun k hk m t W h => expect_any l [47] (by decide) hl k hk m t W B h
  obtain ⟨c0, c1, c2, c3⟩ := h.cells
  rcases mt1 47 (l.drop k) with h0 | h0
  · have HR : Hid (rdT l k = (false, k, [])) := Lib.hid (by unfold rdT; rw [h0]; rfl)
    have HE2 : Hid (∀ W, RB W B l k m [] → Calls Tryd.prog 29 #[.pointer (some ⟨B, 0, none⟩), .string ⟨#[47]⟩] W fun e w' => e = .returned (.bool false) ∧ RB w' B l k m [] ∧ Below B W w') := Lib.hid fun W h => by
      have := HE.out k hk m [] W h
      rw [h0] at this
      exact this
    clear h0 HE
    go_enter Tryd.func21, Tryd.ntmps21
    go_wp2_with fail
    refine (HE2.out _ h).mono ?_
    rintro e w1 ⟨rfl, h1, hb⟩
    go_wp2_with fail
    go_ret
    exact ⟨by rw [HR.out]; rfl, by rw [HR.out]; exact h1, hb⟩
  · have hkl : k + 1 ≤ l.length := by
      have := mtN_le2 [47] (l.drop k)
      rw [h0, List.length_drop] at this
      omega
    have hel : tEnd l k ≤ l.length := by
      have := ldN_le (l.drop (k + 1))
      rw [List.length_drop] at this
      unfold tEnd
      omega
    have hke : k ≤ tEnd l k := by unfold tEnd; omega
    have HR0 : rdT l k = (decide (mtN [32] (l.drop (tEnd l k)) = 1), tEnd l k + mtN [32] (l.drop (tEnd l k)), (l.take (tEnd l k)).drop k) := by unfold rdT; rw [if_pos h0]
    have HE2 : Hid (∀ W, RB W B l k m [] → Calls Tryd.prog 29 #[.pointer (some ⟨B, 0, none⟩), .string ⟨#[47]⟩] W fun e w' => e = .returned (.bool true) ∧ RB w' B l (k + 1) m [] ∧ Below B W w') := Lib.hid fun W h => by
      have := HE.out k hk m [] W h
      rw [h0] at this
      exact this
    obtain ⟨r, hr⟩ : ∃ r, l.drop (k + 1) = r := ⟨_, rfl⟩
    have hrl : r.length < 1000000 := by rw [← hr, List.length_drop]; omega
    have HL : Hid (∀ W, RB W B l (k + 1) m [] → Calls Tryd.prog 27 #[.pointer (some ⟨B, 0, none⟩)] W fun e w' => e = .returned (.string ⟨r.toArray⟩) ∧ Below W.heap.size W w') := Lib.hid fun W h => by
      have := left_any l (k + 1) hkl m [] W B h
      rw [hr] at this
      exact this
    have HD := Lib.hid fun W => qleading_any r hrl W
    obtain ⟨j, hj⟩ : ∃ j, ldN r = j := ⟨_, rfl⟩
    rw [hj] at HD
    have hjl : j ≤ r.length := by rw [← hj]; exact ldN_le _
    have hte : tEnd l k = k + 1 + j := by unfold tEnd; rw [hr, hj]
    obtain ⟨E, hE⟩ : ∃ E, tEnd l k = E := ⟨_, rfl⟩
    rw [hE] at HR0 hel hke hte
    have HP : Hid (∀ W, RB W B l (k + 1) m [] → Calls Tryd.prog 28 #[.pointer (some ⟨B, 0, none⟩), .int .i64 (j : Int)] W fun e w' => e = .returned (.tuple #[]) ∧ RB w' B l E m [] ∧ Below B W w') := Lib.hid fun W h => by
      have := pass_any l (k + 1) j (by omega) (by omega) m [] W B h
      rw [← hte] at this
      exact this
    obtain ⟨q, hq⟩ : ∃ q, (l.take E).drop k = q := ⟨_, rfl⟩
    have hql : q.length < 1000000 := by rw [← hq, List.length_drop, List.length_take]; omega
    have hcut : (ByteArray.mk l.toArray).extract k E = ⟨q.toArray⟩ := by rw [qcut, hq]
    have HC := Lib.hid fun W => clone_any q hql W
    rw [hq] at HR0
    have HR := Lib.hid HR0
    have HE3 : Hid (∀ W, RB W B l E m q → Calls Tryd.prog 29 #[.pointer (some ⟨B, 0, none⟩), .string ⟨#[32]⟩] W fun e w' => e = .returned (.bool (decide (mtN [32] (l.drop E) = 1))) ∧ RB w' B l (E + mtN [32] (l.drop E)) m q ∧ Below B W w') := Lib.hid fun W h => expect_any l [32] (by decide) hl E hel m q W B h
    have b1 : (k : Int) ≤ (E : Int) := by omega
    have b2 : (E : Int) ≤ (l.length : Int) := by omega
    clear h0 HE HR0 hr hrl hj hjl hte hE hq hql hkl hel hke
    go_enter Tryd.func21, Tryd.ntmps21
    go_wp2_with fail
    refine (HE2.out _ h).mono ?_
    rintro e w1 ⟨rfl, h1, hb1⟩
    clear c0 c1 c2 c3
    go_wp2_with fail
    go_region_with (first
      | (go_at_call 27; refine (HL.out _ h1.drew).mono ?_; rintro e w2 ⟨rfl, hb2⟩; have h2 := h1.drew.below hb2 h1.lt; have hB2 := (hb1.drew).trans (Below.mono hb2 (Nat.le_of_lt h1.lt)))
      | (go_at_call 30; refine (HD.out _).mono ?_; rintro e w3 ⟨rfl, rfl⟩)
      | (go_at_call 28; refine (HP.out _ h2).mono ?_; rintro e w4 ⟨rfl, h4, hb4⟩; have hB4 := hB2.trans hb4))
    all_goals
      go_wp2_with fail
      obtain ⟨c0, c1, c2, c3⟩ := h4.cells
      obtain ⟨f0, f1, f2, f3⟩ := h4.frees
      go_region_with (go_at_call 17; refine (HC.out _).mono ?_; rintro e w5 ⟨rfl, hb5⟩; have h5 := h4.drew.below hb5 h4.lt; have hB5 := hB4.drew.trans (Below.mono hb5 (Nat.le_of_lt h4.lt)); obtain ⟨cc0, cc1, cc2, cc3⟩ := h5.cells; obtain ⟨ff0, ff1, ff2, ff3⟩ := h5.frees)
      all_goals
        have h6 := h5.target q
        have hB6 := hB5.setCell (p := ⟨B, 3, none⟩) (Nat.le_refl _) (.string ⟨q.toArray⟩)
        go_wp2_with fail
        refine (HE3.out _ h6).mono ?_
        rintro e w7 ⟨rfl, h7, hb7⟩
        go_wp2_with fail
        go_ret
        exact ⟨by rw [HR.out]; rfl, by rw [HR.out]; exact h7, hB6.trans hb7⟩
set_option maxHeartbeats 2000000 in
theorem readVersion_any (l : List UInt8) (hl : l.length < 1000000) (k : Nat) (hk : k ≤ l.length) (m t : List UInt8) (W : World) (B : Nat) (h : RB W B l k m t) :
    Calls Tryd.prog 22 #[.pointer (some ⟨B, 0, none⟩)] W fun e w' => e = .returned (.bool (rdV l k).1) ∧ RB w' B l (rdV l k).2 m t ∧ Below B W w' := by
  obtain ⟨b, hb⟩ : ∃ b, decide (mtN verT (l.drop k) = 8) = b := ⟨_, rfl⟩
  obtain ⟨n, hn⟩ : ∃ n, mtN verT (l.drop k) = n := ⟨_, rfl⟩
  have hnl : k + n ≤ l.length := by
    have := mtN_le2 verT (l.drop k)
    rw [hn, List.length_drop] at this
    omega
  have hR : rdV l k = (b && (l.drop (k + n)).isEmpty, k + n) := by unfold rdV; rw [hb, hn]
  have HE : Hid (∀ W, RB W B l k m t → Calls Tryd.prog 29 #[.pointer (some ⟨B, 0, none⟩), .string ⟨#[72, 84, 84, 80, 47, 49, 46, 49]⟩] W fun e w' => e = .returned (.bool b) ∧ RB w' B l (k + n) m t ∧ Below B W w') := Lib.hid fun W h => by
    have := expect_any l verT (by decide) hl k hk m t W B h
    rw [hn] at this
    rw [← hb, hn]
    exact this
  have HL : Hid (∀ W, RB W B l (k + n) m t → Calls Tryd.prog 27 #[.pointer (some ⟨B, 0, none⟩)] W fun e w' => e = .returned (.string ⟨(l.drop (k + n)).toArray⟩) ∧ Below W.heap.size W w') := Lib.hid fun W h => left_any l (k + n) hnl m t W B h
  obtain ⟨q, hq⟩ : ∃ q, l.drop (k + n) = q := ⟨_, rfl⟩
  rw [hq] at HL hR
  clear hb hn hnl hq
  cases b
  · have HR : Hid (rdV l k = (false, k + n)) := Lib.hid (by rw [hR]; rfl)
    clear hR
    go_enter Tryd.func22, Tryd.ntmps22
    go_wp2_with fail
    refine (HE.out _ h).mono ?_
    rintro e w1 ⟨rfl, h1, hb1⟩
    go_wp2_with fail
    go_ret
    exact ⟨by rw [HR.out]; rfl, by rw [HR.out]; exact h1, hb1⟩
  · cases q with
    | nil =>
      have HR : Hid (rdV l k = (true, k + n)) := Lib.hid (by rw [hR]; rfl)
      clear hR
      go_enter Tryd.func22, Tryd.ntmps22
      go_wp2_with fail
      refine (HE.out _ h).mono ?_
      rintro e w1 ⟨rfl, h1, hb1⟩
      go_wp2_with fail
      refine (HL.out _ h1).mono ?_
      rintro e w2 ⟨rfl, hb2⟩
      have h2 := h1.below hb2 h1.lt
      go_wp2_with fail
      go_ret
      exact ⟨by rw [HR.out]; rfl, by rw [HR.out]; exact h2, hb1.trans (Below.mono hb2 (Nat.le_of_lt h1.lt))⟩
    | cons c q =>
      have HR : Hid (rdV l k = (false, k + n)) := Lib.hid (by rw [hR]; rfl)
      clear hR
      go_enter Tryd.func22, Tryd.ntmps22
      go_wp2_with fail
      refine (HE.out _ h).mono ?_
      rintro e w1 ⟨rfl, h1, hb1⟩
      go_wp2_with fail
      refine (HL.out _ h1).mono ?_
      rintro e w2 ⟨rfl, hb2⟩
      have h2 := h1.below hb2 h1.lt
      go_wp2_with fail
      go_ret
      exact ⟨by rw [HR.out]; rfl, by rw [HR.out]; exact h2, hb1.trans (Below.mono hb2 (Nat.le_of_lt h1.lt))⟩
end Go.Proofs.YtnnldmgdojhejaaDoor
