/-
  The program's Split.
-/
import Derived.Test.YtfagjhadfonhdaaLQFeed
import Derived.Deep.RegionHeld3
namespace Go.Proofs.Ytfagjhadfonhdaa
open Go.RowKit
set_option maxRecDepth 100000 in
set_option maxHeartbeats 8000000 in
theorem lsplit_any (s : List UInt8) (n : Int) (hl : s.length < 100000) (w : World) :
    Calls Try.prog 15 #[.string ⟨s.toArray⟩, .int .i64 n] w fun e w' => SplitRes (splR s n) e w' ∧ Below w.heap.size w w' := by
  obtain ⟨⟨⟨n2, t2, g2⟩, x⟩, hR⟩ : ∃ R, newR n = R := ⟨_, rfl⟩
  have HV : Hid (newV n = .tuple #[.agg #[.int .i64 n2, .string ⟨t2.toArray⟩, .bool g2], .int .i64 (x : Int)]) := Lib.hid (by unfold newV; rw [hR]; rfl)
  have hx : x = 2 ∧ (n < 1 ∨ 1536 < n) ∨ x = 0 ∧ ¬ (n < 1 ∨ 1536 < n) ∧ n2 = n ∧ t2 = [] ∧ g2 = false := by
    unfold newR at hR
    split at hR
    · rename_i h
      injection hR with _ h2
      exact .inl ⟨h2.symm, h⟩
    · rename_i h
      injection hR with h1 h2
      injection h1 with h1 h3 h4
      exact .inr ⟨h2.symm, h, h1.symm, h3.symm, h4.symm⟩
  have HX := Lib.hid hx
  clear hR hx
  go_enter Try.func15, Try.ntmps15
  go_wp2_with fail
  refine (lnew_any n _).mono ?_
  rintro e w1 ⟨rfl, hb⟩
  rw [HV.out]
  obtain ⟨W2, hW2⟩ : ∃ W2, w1.alloc (.cells #[.int .i64 n2, .string ⟨t2.toArray⟩, .bool g2] 24) = W2 := ⟨_, rfl⟩
  have HB : Hid (Below w.heap.size w W2) := Lib.hid (by rw [← hW2]; exact hb.alloc hb.size _)
  have HB1 : Hid (CBlk 24 W2 w1.heap.size [.int .i64 n2, .string ⟨t2.toArray⟩, .bool g2]) := Lib.hid (by rw [← hW2]; exact CBlk.new _ w1 _)
  clear hb HV
  go_upto_region 2 with fail
  clear hW2
  rcases HX.out with ⟨rfl, h⟩ | ⟨rfl, h, h1, h2, h3⟩
  · have HR : Hid (splR s n = (([], []), 2)) := Lib.hid (by unfold splR; rw [if_pos h])
    clear h
    go_wp2_with fail
    go_ret3
    exact ⟨by rw [HR.out]; exact ⟨_, rfl, LnsAt.nil _⟩, HB.out⟩
  · subst h1 h2 h3
    have hE := errS_of h
    obtain ⟨⟨⟨n3, t3, g3⟩, L⟩, hF⟩ : ∃ F, feedL n2 [] s = F := ⟨_, rfl⟩
    have HF : Hid (feedR ⟨n2, [], false⟩ s = ((⟨n3, t3, g3⟩, L), 0)) := Lib.hid (by unfold feedR; rw [if_pos hE]; dsimp only; rw [hF])
    have HR : Hid (splR s n2 = if g3 = true then (([], []), 4) else ((L, t3), 0)) := Lib.hid (by unfold splR; rw [if_neg h, hF])
    obtain ⟨a0, a1, a2⟩ := HB1.out.cells3
    clear hE hF h HX
    go_wp2_with fail
    refine (lfeed_any ⟨n2, [], false⟩ s (by simp) hl _).mono ?_
    rintro e w3 ⟨hp, hb⟩
    rw [HF.out] at hp
    obtain ⟨v, rfl, hv⟩ := hp
    unfold spV
    dsimp only at hv ⊢
    have hB3 := HB.out.trans (hb.mono HB.out.size)
    obtain ⟨W4, hW4⟩ : ∃ W4, w3.alloc (.cells #[.int .i64 n3, .string ⟨t3.toArray⟩, .bool g3] 24) = W4 := ⟨_, rfl⟩
    have HB4 : Hid (Below w.heap.size w W4) := Lib.hid (by rw [← hW4]; exact hB3.alloc hB3.size _)
    have hb4 : CBlk 24 W4 w3.heap.size [.int .i64 n3, .string ⟨t3.toArray⟩, .bool g3] := by rw [← hW4]; exact CBlk.new _ w3 _
    have HL : Hid (LnsN W2.heap.size W4 v L) := Lib.hid (by rw [← hW4]; exact hv.below ((Below.refl _ w3).alloc (Nat.le_refl _) _) (Nat.le_refl _))
    obtain ⟨b0, b1, b2⟩ := hb4.cells3
    obtain ⟨vp, vc, rfl, -, -, -⟩ := hv
    clear hb hB3 hb4 a0 a1 a2
    go_upto_region 5 with fail
    clear hW4
    cases g3
    · go_wp2_with fail
      go_region
      all_goals
        go_wp2_with fail
        go_ret3
        refine ⟨by rw [HR.out]; exact ⟨_, rfl, (HL.out.at').below ((Below.refl _ W4).drew) (Nat.le_refl _)⟩, HB4.out.drew⟩
    · go_wp2_with fail
      go_ret3
      exact ⟨by rw [HR.out]; exact ⟨_, rfl, LnsAt.nil _⟩, HB4.out⟩
end Go.Proofs.Ytfagjhadfonhdaa
