/-
  The program's word for every line and place at which a word begins.
-/
import Derived.Test.YtacceiloggnekaaDoorRPQuo
namespace Go.Proofs.YtacceiloggnekaaDoor
open Go.RowKit
attribute [local go_sem] ba_get
/-- What word answers: the word's text and whether it is quoted, or that it is none. -/
def WPost (l : List UInt8) (k : Nat) (f : Int) (B : Nat) (e : Ending) (w' : World) : Prop :=
  if (wordT l k).2.2 = 0 then ∃ (t : List UInt8) (q : Bool), e = .returned (.tuple #[.string ⟨t.toArray⟩, .bool q, .bool false])
  else e = .returned (.tuple #[.string ⟨(wordT l k).1.toArray⟩, .bool (wordT l k).2.1, .bool true]) ∧ Cur w' B l (k + (wordT l k).2.2) f
theorem quo_size {l : List UInt8} {k : Nat} (h : k < l.length) : k + (quoP l k).2 ≤ l.length := quoP_len h
theorem bN_pos {c : UInt8} {r : List UInt8} (h : isBl c = false) : bN (c :: r) ≠ 0 := by
  unfold bN
  rw [h]
  simp
set_option maxRecDepth 100000 in
set_option maxHeartbeats 8000000 in
theorem word_any (l : List UInt8) (hl : l.length < 1000000) (k : Nat) (f : Int) (B : Nat) (hk : k < l.length) (h1 : isBl l[k] = false) (h2 : (l[k]).toNat ≠ 35) (w : World) (hC : Cur w B l k f) (hV : VTB w B) :
    Calls Tryd.prog 46 #[.pointer (some ⟨B, 0, none⟩)] w fun e w' => WPost l k f B e w' ∧ w.grownBy w' (some B) := by
  have hg : (l[k]?).getD 0 = l[k] := by rw [List.getElem?_eq_getElem hk]; rfl
  have hb1 : (k : Int) < (l.length : Int) := by omega
  obtain ⟨c0, c1, -⟩ := hC.cells
  by_cases h34 : (l[k]).toNat = 34
  · have hT : wordT l k = if (quoP l k).2 = 0 ∨ k + (quoP l k).2 < l.length ∧ isBl ((l[k + (quoP l k).2]?).getD 0) = false then ([], false, 0) else ((quoP l k).1, true, (quoP l k).2) := by
      unfold wordT
      rw [hg, if_pos h34]
    have hQA := fun W hC hV => quotedWord_any l hl k f B hk W hC hV
    obtain ⟨⟨S, N⟩, hQ⟩ : ∃ R, quoP l k = R := ⟨_, rfl⟩
    rw [hQ] at hT
    dsimp only at hT
    obtain ⟨x, hx⟩ : ∃ x, l[k] = x := ⟨_, rfl⟩
    have a1 : (((l[k]).toNat : Int) == 34) = true := by rw [beq_iff_eq]; omega
    rw [hx] at a1
    by_cases hN : N = 0
    · have HQA : Hid (∀ W, Cur W B l k f → VTB W B → Calls Tryd.prog 56 #[.pointer (some ⟨B, 0, none⟩)] W fun e w' => e = .returned (.tuple #[.string ⟨#[]⟩, .bool false]) ∧ W.grownBy w' (some B)) := Lib.hid (fun W a b => (hQA W a b).mono fun e w' ⟨g1, g2⟩ => ⟨by
        unfold QPost at g1
        rw [hQ, if_pos hN] at g1
        exact g1.1, g2⟩)
      have HT : Hid ((wordT l k).2.2 = 0) := Lib.hid (by rw [hT, if_pos (Or.inl hN)])
      have HC : Hid (Cur w B l k f) := Lib.hid hC
      have HV : Hid (VTB w B) := Lib.hid hV
      clear hQA hQ hT hN h34 hC hV h1 h2 hg
      go_enter Tryd.func46, Tryd.ntmps46
      go_wp2_with fail
      go_quiet (fail)
      go_wp2_with fail
      refine (HQA.out _ (show Cur (World.drewN w nq) B l k f from HC.out) (HV.out.step (grown_drewN (World.grownBy.refl _ _) _))).mono ?_
      rintro e w1 ⟨rfl, hb⟩
      have HB := Lib.hid ((grown_drewN (World.grownBy.refl w (some B)) nq).trans hb)
      clear hb c0 c1
      go_wp2_with fail
      go_ret3
      refine ⟨?_, HB.out⟩
      unfold WPost
      rw [if_pos HT.out]
      exact ⟨[], true, rfl⟩
    · have HQA : Hid (∀ W, Cur W B l k f → VTB W B → Calls Tryd.prog 56 #[.pointer (some ⟨B, 0, none⟩)] W fun e w' => e = .returned (.tuple #[.string ⟨S.toArray⟩, .bool (gapB l (k + N))]) ∧ Cur w' B l (k + N) f ∧ W.grownBy w' (some B)) := Lib.hid (fun W a b => (hQA W a b).mono fun e w' ⟨g1, g2⟩ => by
        unfold QPost at g1
        rw [hQ, if_neg hN] at g1
        exact ⟨g1.1, g1.2, g2⟩)
      obtain ⟨v, hv⟩ : ∃ v, gapB l (k + N) = v := ⟨_, rfl⟩
      rw [hv] at HQA
      have HW : Hid (∀ w', Cur w' B l (k + N) f → WPost l k f B (.returned (.tuple #[.string ⟨S.toArray⟩, .bool true, .bool v])) w') := Lib.hid (fun w' hc => by
        unfold WPost
        unfold gapB at hv
        cases v
        · have hc2 : k + N < l.length ∧ isBl ((l[k + N]?).getD 0) = false := by
            by_cases h : k + N < l.length
            · rw [if_pos h] at hv; exact ⟨h, hv⟩
            · rw [if_neg h] at hv; cases hv
          rw [hT, if_pos (Or.inr hc2)]
          exact ⟨S, true, rfl⟩
        · have hc2 : ¬ (N = 0 ∨ k + N < l.length ∧ isBl ((l[k + N]?).getD 0) = false) := by
            rintro (h | ⟨h, h3⟩)
            · exact hN h
            · rw [if_pos h, h3] at hv; cases hv
          rw [hT, if_neg hc2, if_neg hN]
          exact ⟨rfl, hc⟩)
      have HC : Hid (Cur w B l k f) := Lib.hid hC
      have HV : Hid (VTB w B) := Lib.hid hV
      clear hQA hQ hT hN h34 hC hV h1 h2 hg hv
      go_enter Tryd.func46, Tryd.ntmps46
      go_wp2_with fail
      go_quiet (fail)
      go_wp2_with fail
      refine (HQA.out _ (show Cur (World.drewN w nq) B l k f from HC.out) (HV.out.step (grown_drewN (World.grownBy.refl _ _) _))).mono ?_
      rintro e w1 ⟨rfl, hc, hb⟩
      have HB := Lib.hid ((grown_drewN (World.grownBy.refl w (some B)) nq).trans hb)
      have HCC : Hid (Cur w1 B l (k + N) f) := Lib.hid hc
      clear hb c0 c1 hc
      go_wp2_with fail
      go_ret3
      exact ⟨HW.out _ HCC.out, HB.out⟩
  · have hT : wordT l k = wordR l k (bareF (l.drop k)) := by
      unfold wordT
      rw [hg, if_neg h34]
    rw [bareF_bN] at hT
    have hQA := fun W hC => bareWord_any l hl k f B hk h1 h2 W hC
    have hb0 : bN (l.drop k) ≠ 0 := by rw [List.drop_eq_getElem_cons hk]; exact bN_pos h1
    obtain ⟨n, hn⟩ : ∃ n, bN (l.drop k) = n := ⟨_, rfl⟩
    obtain ⟨X, hX⟩ : ∃ X, (l.drop k).take n = X := ⟨_, rfl⟩
    rw [hn] at hT hb0
    rw [hn, hX] at hQA
    rw [hX] at hT
    obtain ⟨x, hx⟩ : ∃ x, l[k] = x := ⟨_, rfl⟩
    have a1 : (((l[k]).toNat : Int) == 34) = false := by rw [beq_eq_false_iff_ne]; omega
    rw [hx] at a1
    obtain ⟨v, hv⟩ : ∃ v, X.all isBw = v := ⟨_, rfl⟩
    rw [hv] at hQA hT
    have HW : Hid (∀ w', Cur w' B l (k + n) f → WPost l k f B (.returned (.tuple #[.string ⟨X.toArray⟩, .bool false, .bool v])) w') := Lib.hid (fun w' hc => by
      unfold WPost
      cases v
      · rw [hT]
        exact ⟨X, false, rfl⟩
      · rw [hT]
        unfold wordR
        simp only [if_true]
        rw [if_neg hb0, hX]
        exact ⟨rfl, hc⟩)
    have HQA := Lib.hid hQA
    have HC : Hid (Cur w B l k f) := Lib.hid hC
    clear hQA hT h34 hC hV h1 h2 hg hv hX hn hb0
    go_enter Tryd.func46, Tryd.ntmps46
    go_wp2_with fail
    go_quiet (fail)
    go_wp2_with fail
    refine (HQA.out _ (show Cur (World.drewN w nq) B l k f from HC.out)).mono ?_
    rintro e w1 ⟨rfl, hc, hb⟩
    have HB := Lib.hid ((grown_drewN (World.grownBy.refl w (some B)) nq).trans hb)
    have HCC : Hid (Cur w1 B l (k + n) f) := Lib.hid hc
    clear hb c0 c1 hc
    go_wp2_with fail
    go_ret3
    exact ⟨HW.out _ HCC.out, HB.out⟩
end Go.Proofs.YtacceiloggnekaaDoor
