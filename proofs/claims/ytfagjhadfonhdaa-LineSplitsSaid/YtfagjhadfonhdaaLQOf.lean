/-
  The program's New, Check, Rest and lineOf of splitters.
-/
import Derived.Test.YtfagjhadfonhdaaLQAny
namespace Go.Proofs.Ytfagjhadfonhdaa
open Go.RowKit
set_option maxHeartbeats 1000000 in
theorem lnew_any (n : Int) (w : World) :
    Calls Try.prog 19 #[.int .i64 n] w fun e w' => e = .returned (newV n) ∧ Below w.heap.size w w' := by
  have hz := CBlk.new 24 w [.int .i64 0, .string ⟨#[]⟩, .bool false]
  have hB := (Below.refl w.heap.size w).alloc (Nat.le_refl _) (.cells #[.int .i64 0, .string ⟨#[]⟩, .bool false] 24)
  by_cases h1 : n < 1
  · have d1 : decide (n < 1) = true := decide_eq_true h1
    have HV : Hid (newR n = (⟨0, [], false⟩, 2)) := Lib.hid (if_pos (Or.inl h1))
    clear h1
    go_enter Try.func19, Try.ntmps19
    go_wp2_with fail
    exact bodyPost_ret (sp_result1 hz rfl _ _ rfl rfl) rfl ⟨by unfold newV; rw [HV.out]; rfl, hB⟩
  · have d1 : decide (n < 1) = false := decide_eq_false h1
    by_cases h2 : 1536 < n
    · have d2 : decide (1536 < n) = true := decide_eq_true h2
      have HV : Hid (newR n = (⟨0, [], false⟩, 2)) := Lib.hid (if_pos (Or.inr h2))
      clear h1 h2
      go_enter Try.func19, Try.ntmps19
      go_wp2_with fail
      exact bodyPost_ret (sp_result1 hz rfl _ _ rfl rfl) rfl ⟨by unfold newV; rw [HV.out]; rfl, hB⟩
    · have d2 : decide (1536 < n) = false := decide_eq_false h2
      have HV : Hid (newR n = (⟨n, [], false⟩, 0)) := Lib.hid (if_neg (by omega))
      clear h1 h2
      go_enter Try.func19, Try.ntmps19
      go_wp2_with fail
      exact bodyPost_ret (sp_result1 (CBlk.new _ w _) rfl _ _ rfl rfl) rfl ⟨by unfold newV; rw [HV.out]; rfl, (Below.refl _ _).alloc (Nat.le_refl _) _⟩
set_option maxRecDepth 100000 in
set_option maxHeartbeats 2000000 in
theorem lcheck_any (s : Sp) (hl : s.txt.length < 100000) (w : World) :
    Calls Try.prog 21 #[spV s] w fun e w' => e = .returned (.int .i64 (chkS s : Nat)) ∧ Below w.heap.size w w' := by
  obtain ⟨n, t, g⟩ := s
  dsimp only at hl
  have hB := (Below.refl w.heap.size w).alloc (Nat.le_refl _) (.cells #[.int .i64 n, .string ⟨t.toArray⟩, .bool g] 24)
  have b1 := CBlk.new 24 w [.int .i64 n, .string ⟨t.toArray⟩, .bool g]
  obtain ⟨⟨⟨n2, t2, g2⟩, x⟩, hR⟩ : ∃ R, newR n = R := ⟨_, rfl⟩
  have HV : Hid (newV n = .tuple #[.agg #[.int .i64 n2, .string ⟨t2.toArray⟩, .bool g2], .int .i64 (x : Int)]) := Lib.hid (by unfold newV; rw [hR]; rfl)
  have hx : x = 2 ∧ (n < 1 ∨ 1536 < n) ∨ x = 0 ∧ ¬ (n < 1 ∨ 1536 < n) := by
    unfold newR at hR
    split at hR
    · rename_i h
      injection hR with _ h2
      exact .inl ⟨h2.symm, h⟩
    · rename_i h
      injection hR with _ h2
      exact .inr ⟨h2.symm, h⟩
  have HX := Lib.hid hx
  have HB := Lib.hid hB
  have HB1 := Lib.hid b1
  clear hR hx hB b1
  unfold spV
  go_enter Try.func21, Try.ntmps21
  go_wp2_with fail
  refine (lnew_any n _).mono ?_
  rintro e w1 ⟨rfl, hb⟩
  rw [HV.out]
  have hB1 := HB.out.trans (hb.mono HB.out.size)
  have b1 := HB1.out.below hb HB1.out.lt
  clear HB HB1 HV hb
  obtain ⟨W2, hW2⟩ : ∃ W2, w1.alloc (.cells #[.int .i64 n2, .string ⟨t2.toArray⟩, .bool g2] 24) = W2 := ⟨_, rfl⟩
  have HB : Hid (Below w.heap.size w W2) := Lib.hid (by rw [← hW2]; exact hB1.alloc hB1.size _)
  have b2 : CBlk 24 W2 w.heap.size [.int .i64 n, .string ⟨t.toArray⟩, .bool g] := by
    rw [← hW2]
    exact b1.alloc _
  obtain ⟨a0, a1, a2⟩ := b2.cells3
  clear b1 b2 hB1
  go_upto_region 2 with fail
  clear hW2
  rcases HX.out with ⟨rfl, h12⟩ | ⟨rfl, h12⟩
  · have HR : Hid (chkS ⟨n, t, g⟩ = 2) := Lib.hid (if_pos h12)
    clear h12
    go_wp2_with fail
    go_ret
    exact ⟨by rw [HR.out]; rfl, HB.out⟩
  by_cases h3 : n < (t.length : Int)
  · have d3 : decide (n < (t.length : Int)) = true := decide_eq_true h3
    have HR : Hid (chkS ⟨n, t, g⟩ = 4) := Lib.hid (by unfold chkS; rw [if_neg h12, if_pos h3])
    clear h3 h12
    go_wp2_with fail
    go_ret
    exact ⟨by rw [HR.out]; rfl, HB.out⟩
  have d3 : decide (n < (t.length : Int)) = false := decide_eq_false h3
  have HR : Hid (chkS ⟨n, t, g⟩ = if (hasN t 10 || (g && !t.isEmpty)) = true then 3 else 0) := Lib.hid (by unfold chkS; rw [if_neg h12, if_neg h3])
  obtain ⟨q, hq⟩ : ∃ q, hasN t 10 = q := ⟨_, rfl⟩
  have HQ := Lib.hid hq
  rw [hq] at HR
  clear h3 h12 hq
  go_wp2_with fail
  refine (contains_any t _).mono ?_
  rintro e w' ⟨rfl, rfl⟩
  rw [HQ.out]
  cases q
  · cases g
    · go_wp2_with fail
      go_ret
      exact ⟨by rw [HR.out]; rfl, HB.out⟩
    · by_cases h0 : t = []
      · subst h0
        go_wp2_with fail
        go_ret
        exact ⟨by rw [HR.out]; rfl, HB.out⟩
      · have he : t.isEmpty = false := len_pos_empty h0
        rw [he] at HR
        clear h0
        go_wp2_with fail
        go_ret
        exact ⟨by rw [HR.out]; rfl, HB.out⟩
  · go_wp2_with fail
    go_ret
    exact ⟨by rw [HR.out]; rfl, HB.out⟩
set_option maxRecDepth 100000 in
set_option maxHeartbeats 2000000 in
theorem lrest_any (s : Sp) (hl : s.txt.length < 100000) (w : World) :
    Calls Try.prog 25 #[spV s] w fun e w' => e = .returned (restV s) ∧ Below w.heap.size w w' := by
  obtain ⟨n, t, g⟩ := s
  dsimp only at hl
  have HB := Lib.hid ((Below.refl w.heap.size w).alloc (Nat.le_refl _) (.cells #[.int .i64 n, .string ⟨t.toArray⟩, .bool g] 24))
  have HB1 := Lib.hid (CBlk.new 24 w [.int .i64 n, .string ⟨t.toArray⟩, .bool g])
  obtain ⟨x, hx⟩ : ∃ x, chkS ⟨n, t, g⟩ = x := ⟨_, rfl⟩
  have HX := Lib.hid hx
  clear hx
  unfold spV
  go_enter Try.func25, Try.ntmps25
  go_wp2_with fail
  refine (lcheck_any ⟨n, t, g⟩ hl _).mono ?_
  rintro e w1 ⟨rfl, hb⟩
  rw [HX.out]
  have HB := Lib.hid (HB.out.trans (hb.mono HB.out.size))
  have b1 := HB1.out.below hb HB1.out.lt
  obtain ⟨a0, a1, a2⟩ := b1.cells3
  clear hb b1 HB1
  by_cases h0 : x = 0
  · subst h0
    have HR : Hid (restV ⟨n, t, g⟩ = .tuple #[.string ⟨t.toArray⟩, .int .i64 0]) := Lib.hid (by unfold restV; rw [HX.out, if_pos rfl])
    go_wp2_with fail
    refine (clone_any t (by omega) _).mono ?_
    rintro e w2 ⟨rfl, hb⟩
    go_wp2_with fail
    go_ret2
    exact ⟨by rw [HR.out]; rfl, HB.out.trans (hb.mono HB.out.size)⟩
  · have e0 : ((x : Int) == 0) = false := by rw [beq_eq_false_iff_ne]; omega
    have e1 : ((x : Int) != 0) = true := by rw [bne_iff_ne]; omega
    have HR : Hid (restV ⟨n, t, g⟩ = .tuple #[.string ⟨#[]⟩, .int .i64 (x : Int)]) := Lib.hid (by unfold restV; rw [HX.out, if_neg h0])
    clear h0
    go_wp2_with fail
    go_ret2
    exact ⟨by rw [HR.out]; rfl, HB.out⟩
set_option maxRecDepth 100000 in
set_option maxHeartbeats 2000000 in
theorem lineOf_any (l : List UInt8) (hl : l.length < 900000) (w : World) :
    Calls Try.prog 52 #[.string ⟨l.toArray⟩] w fun e w' => e = .returned (lnV (lineR l)) ∧ Below w.heap.size w w' := by
  have hz := CBlk.new 27 w [.string ⟨#[]⟩, .bool false]
  have HB := Lib.hid ((Below.refl w.heap.size w).alloc (Nat.le_refl _) (.cells #[.string ⟨#[]⟩, .bool false] 27))
  have hR := lineR_cr l
  have htl : (crT l).length < 1000000 := by
    unfold crT
    split
    · rw [List.length_take]; omega
    · omega
  obtain ⟨t, ht⟩ : ∃ t, crT l = t := ⟨_, rfl⟩
  obtain ⟨b, hb⟩ : ∃ b, crB l = b := ⟨_, rfl⟩
  rw [ht, hb] at hR
  rw [ht] at htl
  have HR := Lib.hid hR
  have HT := Lib.hid ht
  have HBt := Lib.hid hb
  have HZ := Lib.hid hz
  clear hR ht hb hz
  obtain ⟨W0, hW0⟩ : ∃ W0, w.alloc (.cells #[.string ⟨#[]⟩, .bool false] 27) = W0 := ⟨_, rfl⟩
  rw [hW0] at HB HZ
  go_enter Try.func52, Try.ntmps52
  go_upto_region 1 with fail
  clear hW0
  go_wp2_with fail
  refine (cutSuffix_any l (by omega) _).mono ?_
  rintro e w' ⟨rfl, rfl⟩
  rw [HT.out, HBt.out]
  cases b
  · obtain ⟨q0, q1⟩ := HZ.out.cells2
    have g0 := HZ.out.free 0
    have g1 := HZ.out.free 1
    go_wp2_with fail
    exact bodyPost_ret (ln_result (HZ.out.store2 rfl _ _) rfl _ rfl) rfl ⟨by rw [HR.out]; rfl, below_store2 HB.out (Nat.le_refl _) _ _⟩
  · obtain ⟨q, hq⟩ : ∃ q, goodB t = q := ⟨_, rfl⟩
    have HQ := Lib.hid hq
    clear hq
    go_wp2_with fail
    refine (isClean_any t htl _).mono ?_
    rintro e w1 ⟨rfl, hb⟩
    rw [HQ.out]
    have h1 := HZ.out.below hb HZ.out.lt
    have HB := Lib.hid (HB.out.trans (hb.mono HB.out.size))
    obtain ⟨q0, q1⟩ := h1.cells2
    have g0 := h1.free 0
    have g1 := h1.free 1
    have H1 := Lib.hid h1
    clear h1 hb
    go_wp2_with fail
    exact bodyPost_ret (ln_result (H1.out.store2 rfl _ _) rfl _ rfl) rfl ⟨by rw [HR.out]; unfold lnV; dsimp only; rw [HQ.out]; rfl, below_store2 HB.out (Nat.le_refl _) _ _⟩
end Go.Proofs.Ytfagjhadfonhdaa
