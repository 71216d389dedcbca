/-
  The reference's Feed of splitters.
-/
import Derived.Test.YtfagjhadfonhdaaLFeedF
import Derived.Test.YtfagjhadfonhdaaLOne
namespace Go.Proofs.Ytfagjhadfonhdaa
open Go.RowKit
set_option maxRecDepth 100000 in
set_option maxHeartbeats 8000000 in
theorem refFeed_any (s : Sp) (c : List UInt8) (hl : s.txt.length < 1000000) (hc : c.length < 1000000) (w : World) :
    Calls Try.prog 23 #[spV s, .string ⟨c.toArray⟩] w fun e w' => FeedPost w.heap.size (feedR s c) e w' ∧ Below w.heap.size w w' := by
  obtain ⟨i0, hi, hz0, hz1, hz2⟩ := linfo_parts infoLn
  obtain ⟨R, hR⟩ : ∃ R, feedR s c = R := ⟨_, rfl⟩
  have H0 : Hid (goF [] s c = R) := Lib.hid (by rw [← hR]; unfold goF feedR; simp)
  rw [hR]
  clear hR
  obtain ⟨n, t, g⟩ := s
  dsimp only at hl
  obtain ⟨W0, hW0⟩ : ∃ W0, (w.alloc (.cells #[.int .i64 n, .string ⟨t.toArray⟩, .bool g] 24)).alloc (.cells #[.int .i64 0, .string ⟨#[]⟩, .bool false] 24) = W0 := ⟨_, rfl⟩
  have hB : Below w.heap.size w W0 := by
    rw [← hW0]
    exact ((Below.refl _ _).alloc (Nat.le_refl _) _).alloc (by simp) _
  have b1 : CBlk 24 W0 w.heap.size [.int .i64 n, .string ⟨t.toArray⟩, .bool g] := by
    rw [← hW0]
    exact (CBlk.new _ w _).alloc _
  have b2 : CBlk 24 W0 (w.heap.size + 1) [.int .i64 0, .string ⟨#[]⟩, .bool false] := by
    rw [← hW0]
    have h := CBlk.new 24 (w.alloc (.cells #[.int .i64 n, .string ⟨t.toArray⟩, .bool g] 24)) [.int .i64 0, .string ⟨#[]⟩, .bool false]
    simpa using h
  have HB := Lib.hid hB
  have HB1 := Lib.hid b1
  have HB2 := Lib.hid b2
  clear hB b1 b2
  unfold spV
  go_enter Try.func23, Try.ntmps23
  go_upto_region 2 with fail
  clear hW0
  go_loopw [1, 7] (fun cc o wr => ∃ (S : Sp) (C : List UInt8) (O : List Ln), C.length ≤ c.length ∧ S.txt.length < 1000000 ∧ O.length + C.length ≤ c.length ∧ cc = .string ⟨C.toArray⟩ ∧ Hid (goF O S C = R) ∧ wr.ownsRow (w.heap.size + 2) 27 2 o O.length (lnsC O) ∧ CBlk 24 wr w.heap.size (spC S) ∧ CBlk 24 wr (w.heap.size + 1) [.int .i64 0, .string ⟨#[]⟩, .bool false] ∧ Below w.heap.size w wr) (fun cc _ _ => match cc with | .string b => b.size | _ => 0)
  case atStart => exact ⟨⟨n, t, g⟩, c, [], Nat.le_refl _, hl, by simp, rfl, H0, World.ownsRow_nil _ _ _ _, HB1.out, HB2.out, HB.out⟩
  case round =>
    clear H0 HB1 HB2 HB
    obtain ⟨⟨n, t, g⟩, C, O, hC, hS, hO, rfl, hp, hrow, b1, b2, hB⟩ := hrel
    unfold spC at b1
    dsimp only at hS b1
    obtain ⟨a0, a1, a2⟩ := b1.cells3
    obtain ⟨x, hx⟩ : ∃ x, errS ⟨n, t, g⟩ = x := ⟨_, rfl⟩
    have HX := Lib.hid hx
    by_cases h0 : x = 0
    · subst h0
      obtain ⟨⟨⟨sn, st, sg⟩, ⟨lt, lgd⟩, rest, is⟩, ho⟩ : ∃ o, oneL n t C = o := ⟨_, rfl⟩
      have hof := one_feed n C t
      rw [ho] at hof
      dsimp only at hof
      have HV : Hid (oneV ⟨n, t, g⟩ C = .tuple #[.agg #[.int .i64 sn, .string ⟨st.toArray⟩, .bool sg], .agg #[.string ⟨lt.toArray⟩, .bool lgd], .string ⟨rest.toArray⟩, .bool is, .int .i64 0]) := Lib.hid (by unfold oneV oneR; rw [hx, if_pos rfl]; dsimp only; rw [ho]; rfl)
      have HOF := Lib.hid hof
      have HR := Lib.hid hrow
      have HB1 := Lib.hid b1
      have HB2 := Lib.hid b2
      have HB := Lib.hid hB
      clear hx ho hof hrow b1 b2 hB
      go_wp2_with fail
      refine (refOne7_any ⟨n, t, g⟩ C (by dsimp only; omega) (by omega) _).mono ?_
      rintro e w1 ⟨rfl, hb⟩
      rw [HV.out]
      have HR := Lib.hid (own_belowR HR.out hb)
      have HB1 := Lib.hid (HB1.out.below hb HB1.out.lt)
      have HB2 := Lib.hid (HB2.out.below hb HB2.out.lt)
      have HB := Lib.hid (HB.out.trans (hb.mono HB.out.size))
      clear hb
      obtain ⟨W2, hW2⟩ : ∃ W2, (w1.alloc (.cells #[.int .i64 sn, .string ⟨st.toArray⟩, .bool sg] 24)).alloc (.cells #[.string ⟨lt.toArray⟩, .bool lgd] 27) = W2 := ⟨_, rfl⟩
      have c8 : CBlk 24 W2 w1.heap.size [.int .i64 sn, .string ⟨st.toArray⟩, .bool sg] := by
        rw [← hW2]
        exact (CBlk.new _ w1 _).alloc _
      have c9 : CBlk 27 W2 (w1.heap.size + 1) [.string ⟨lt.toArray⟩, .bool lgd] := by
        rw [← hW2]
        have h := CBlk.new 27 (w1.alloc (.cells #[.int .i64 sn, .string ⟨st.toArray⟩, .bool sg] 24)) [.string ⟨lt.toArray⟩, .bool lgd]
        simpa using h
      have HR := Lib.hid (show W2.ownsRow (w.heap.size + 2) 27 2 u7 O.length (lnsC O) by rw [← hW2]; exact (HR.out.alloc _).alloc _)
      have b1 : CBlk 24 W2 w.heap.size [.int .i64 n, .string ⟨t.toArray⟩, .bool g] := by
        rw [← hW2]
        exact (HB1.out.alloc _).alloc _
      have b2 : CBlk 24 W2 (w.heap.size + 1) [.int .i64 0, .string ⟨#[]⟩, .bool false] := by
        rw [← hW2]
        exact (HB2.out.alloc _).alloc _
      have hsz : w.heap.size + 2 ≤ W2.heap.size := b2.lt
      have HB := Lib.hid (show Below w.heap.size w W2 by
        rw [← hW2]
        have h1 := HB.out.alloc HB.out.size (.cells #[.int .i64 sn, .string ⟨st.toArray⟩, .bool sg] 24)
        exact h1.alloc h1.size _)
      obtain ⟨k0, k1, k2⟩ := c8.cells3
      obtain ⟨l0, l1⟩ := c9.cells2
      obtain ⟨p0, p1, p2⟩ := b2.cells3
      have f0 := b2.free 0
      have f1 := b2.free 1
      have f2 := b2.free 2
      have HC8 := Lib.hid c8
      have HC9 := Lib.hid c9
      have HB1 := Lib.hid b1
      have HB2 := Lib.hid b2
      have HSZ := Lib.hid hsz
      clear b1 b2 c8 c9 hsz
      go_upto_region 3 with fail
      clear hW2
      cases is
      · have hfd := HOF.out.2 rfl
        have hres : Hid (R = ((⟨sn, st, sg⟩, O), 0)) := Lib.hid (by rw [← hp.out]; unfold goF; rw [HX.out, if_pos rfl]; dsimp only; rw [hfd]; simp)
        clear hfd HOF
        go_wp2_with fail
        have hs := HB2.out.store3 rfl (.int .i64 sn) (.string ⟨st.toArray⟩) (.bool sg)
        have ho := World.ownsRow.mono (base' := w.heap.size) (ownsRow_setCell_below (ownsRow_setCell_below (ownsRow_setCell_below HR.out (a := ⟨w.heap.size + 1, 0, none⟩) (by simp) (.int .i64 sn)) (a := ⟨w.heap.size + 1, 1, none⟩) (by simp) (.string ⟨st.toArray⟩)) (a := ⟨w.heap.size + 1, 2, none⟩) (by simp) (.bool sg)) (by omega)
        exact bodyPost_ret (sp_result2 hs rfl _ u7 (.int .i64 0) rfl rfl rfl) rfl ⟨⟨u7, by rw [hres.out]; rfl, by rw [hres.out]; exact ho⟩, below_store3 HB.out (Nat.le_succ _) _ _ _⟩
      · obtain ⟨h1, h2, h3⟩ := HOF.out.1 rfl
        injection h1 with h1 h1b h1c
        subst h1 h1b h1c
        have hnext : Hid (goF (O ++ [⟨lt, lgd⟩]) ⟨sn, [], false⟩ rest = R) := Lib.hid (by
          rw [← hp.out]
          unfold goF
          rw [HX.out, if_pos rfl, errS_new HX.out, if_pos rfl]
          dsimp only
          rw [h3]
          simp)
        clear HOF h3
        have hrow := HR.out
        have z1 : w.heap.size + 2 ≤ (W2.alloc (.cells #[.string ⟨lt.toArray⟩, .bool lgd] 27)).heap.size := by have := HSZ.out; simp; omega
        have hne : ∀ b, b < w.heap.size + 2 → some b ≠ u7.ownBlock := fun b hb e => by have := (hrow.lt b e.symm).1; omega
        have hB0 := HB.out.alloc HB.out.size (.cells #[.string ⟨lt.toArray⟩, .bool lgd] 27)
        have HNE := Lib.hid hne
        have HLT := Lib.hid (show (u7.ownBlock = none ∨ ∃ b, u7.ownBlock = some b ∧ b ≠ w1.heap.size) from by
          cases hob : u7.ownBlock with
          | none => exact Or.inl rfl
          | some b =>
            refine Or.inr ⟨b, rfl, fun e => ?_⟩
            subst e
            exact CBlk.not_row HC8.out (by decide) hrow hob.symm)
        clear hne
        go_wp2_with (at_builtin; refine wpList_append_own _ rfl _ _ 32 rfl (w.heap.size + 2) 27 i0 (.agg #[.string ⟨#[]⟩, .bool false]) 2 24 Try.underlying32 hi hz0 hz1 hz2 rfl (by decide) _ _ _ rfl (World.ownsRow.alloc hrow (.cells #[.string ⟨lt.toArray⟩, .bool lgd] 27)) ⟨W2.heap.size, 0, none⟩ 1 1 [.string ⟨lt.toArray⟩, .bool lgd] rfl rfl (lcell_news W2 _ _) (by simp [Value.oneCell']) (by unfold maxLen; omega) (by omega) z1 ?_; intro v' w3 hown' hgrow _; have r8 := (HC8.out.alloc (.cells #[.string ⟨lt.toArray⟩, .bool lgd] 27)).kept hgrow (CBlk.not_row HC8.out (by decide) hrow); have r1 := (HB1.out.alloc (.cells #[.string ⟨lt.toArray⟩, .bool lgd] 27)).kept hgrow (HNE.out _ (by omega)); obtain ⟨m0, m1, m2⟩ := r8.cells3; obtain ⟨o0, o1, o2⟩ := r1.cells3; have of0 := r1.free 0; have of1 := r1.free 1; have of2 := r1.free 2; have HR1 := Lib.hid r1; clear r8 r1)
        have r2 := (HB2.out.alloc (.cells #[.string ⟨lt.toArray⟩, .bool lgd] 27)).kept hgrow (HNE.out _ (by omega))
        have hB3 := below_grownR hB0 (by omega) hgrow (fun r hr => by have := (hrow.lt r hr).1; omega)
        refine ⟨⟨⟨sn, [], false⟩, rest, O ++ [⟨lt, lgd⟩], by omega, by simp, by simp; omega, rfl, hnext, ?_, HR1.out.store3 rfl _ _ _, ?_, below_store3 hB3 (Nat.le_refl _) _ _ _⟩, ?_⟩
        · rw [lnsC_append, List.length_append]
          exact ownsRow_setCell_below (ownsRow_setCell_below (ownsRow_setCell_below hown' (a := ⟨w.heap.size, 0, none⟩) (by simp) _) (a := ⟨w.heap.size, 1, none⟩) (by simp) _) (a := ⟨w.heap.size, 2, none⟩) (by simp) _
        · exact ((r2.other ⟨w.heap.size, 0, none⟩ (by simp) _).other ⟨w.heap.size, 1, none⟩ (by simp) _).other ⟨w.heap.size, 2, none⟩ (by simp) _
        · exact h2
    · have e0 : ((x : Int) == 0) = false := by rw [beq_eq_false_iff_ne]; omega
      have HV : Hid (oneV ⟨n, t, g⟩ C = .tuple #[.agg #[.int .i64 0, .string ⟨#[]⟩, .bool false], .agg #[.string ⟨#[]⟩, .bool false], .string ⟨#[]⟩, .bool false, .int .i64 (x : Int)]) := Lib.hid (by unfold oneV oneR; rw [hx, if_neg h0]; rfl)
      have hres : Hid (R = ((zeroS, []), x)) := Lib.hid (by rw [← hp.out]; unfold goF; rw [hx, if_neg h0])
      have HB2 := Lib.hid b2
      have HB := Lib.hid hB
      clear hx h0 hrow b1 b2 hB
      go_wp2_with fail
      refine (refOne7_any ⟨n, t, g⟩ C (by dsimp only; omega) (by omega) _).mono ?_
      rintro e w1 ⟨rfl, hb⟩
      rw [HV.out]
      have b2 := HB2.out.below hb HB2.out.lt
      have HB := Lib.hid (HB.out.trans (hb.mono HB.out.size))
      clear hb
      obtain ⟨W2, hW2⟩ : ∃ W2, (w1.alloc (.cells #[.int .i64 0, .string ⟨#[]⟩, .bool false] 24)).alloc (.cells #[.string ⟨#[]⟩, .bool false] 27) = W2 := ⟨_, rfl⟩
      have HW2 := Lib.hid hW2
      have b2 : CBlk 24 W2 (w.heap.size + 1) [.int .i64 0, .string ⟨#[]⟩, .bool false] := by
        rw [← hW2]
        exact (b2.alloc _).alloc _
      have HB := Lib.hid (show Below w.heap.size w W2 by
        rw [← hW2]
        have h1 := HB.out.alloc HB.out.size (.cells #[.int .i64 0, .string ⟨#[]⟩, .bool false] 24)
        exact h1.alloc h1.size _)
      obtain ⟨p0, p1, p2⟩ := b2.cells3
      have f0 := b2.free 0
      have f1 := b2.free 1
      have f2 := b2.free 2
      have HB2 := Lib.hid b2
      clear b2 hW2
      go_upto_region 3 with fail
      rw [HW2.out]
      go_wp2_with fail
      have hs := HB2.out.store3 rfl (.int .i64 0) (.string ⟨#[]⟩) (.bool false)
      exact bodyPost_ret (sp_result2 hs rfl _ (.slice none 0 0) (.int .i64 (x : Int)) rfl rfl rfl) rfl ⟨⟨.slice none 0 0, by rw [hres.out]; rfl, by rw [hres.out]; exact World.ownsRow_nil _ _ _ _⟩, below_store3 HB.out (Nat.le_succ _) _ _ _⟩
end Go.Proofs.Ytfagjhadfonhdaa
