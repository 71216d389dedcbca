/-
  The law TargetBack: a path and a query are read from their canonical target.
-/
import Derived.Test.YtjinedeelkdgiaaDoorHL0
import Derived.Test.YtjinedeelkdgiaaDoorHGMade
namespace Go.Proofs.YtjinedeelkdgiaaDoor
open Go.RowKit
set_option maxRecDepth 100000 in
set_option maxHeartbeats 8000000 in
theorem back_any (p : Option Addr) (n c : Nat) (f : Nat → Int) (w : World) (hT : TT w) (hC : CellsIn w p (n * 1) (intC f)) :
    Calls Tryd.prog 6 #[.slice p n c] w fun e w' => e = .returned (.bool true) ∧ Below w.heap.size w w' := by
  have HK := Lib.hid fun W h => known_any W h
  have HM : Hid (∀ W, Below w.heap.size w W → Calls Tryd.prog 25 #[.slice p n c] W fun e w' => ∃ (L : List (List UInt8)) (o : Bool) (Q : List UInt8), e = .returned (.tuple #[.string ⟨(putL L o).toArray⟩, .string ⟨Q.toArray⟩]) ∧ SegG L ∧ L.length ≤ 15 ∧ qryB Q = true ∧ Q.length ≤ 60 ∧ Below W.heap.size W w') := Lib.hid fun W hB => made_any p n c f W (hC.below hB (Nat.le_refl _))
  clear hC
  go_enter Tryd.func6, Tryd.ntmps6
  go_wp2_with fail
  refine (HK.out _ hT).mono ?_
  rintro e w1 ⟨rfl, hB1⟩
  clear HK
  go_wp2_with fail
  refine (HM.out _ hB1).mono ?_
  rintro e w2 ⟨L, o, Q, rfl, hg, hl, hq, hql, hb2⟩
  have hB2 := hB1.trans (hb2.mono hB1.size)
  have hps := put_short hg hl o
  have hsafe := put_safe hg o
  have hnorm : normB (putL L o) = true := by rw [put_norm (seg_names hg)]; exact decide_eq_true (by omega)
  have hqr := qry_good hq (by omega : Q.length ≤ 128)
  have htx := txt_good hnorm hqr
  have hcr := can_can hnorm hsafe hq (by omega)
  have hrd := can_read (n := 128) (by omega) (by omega) hnorm hsafe hq (by omega) (by omega)
  have hcl := can_len (p := putL L o) (q := Q)
  obtain ⟨P, hP⟩ : ∃ P, putL L o = P := ⟨_, rfl⟩
  rw [hP] at hps htx hcr hrd hcl ⊢
  obtain ⟨C, hCe⟩ : ∃ C, canL P Q = C := ⟨_, rfl⟩
  rw [hCe] at htx hcr hrd hcl
  have HX : Hid (∀ W, TT W → Calls Tryd.prog 15 #[.string ⟨P.toArray⟩, .string ⟨Q.toArray⟩] W fun e w' => e = .returned (.tuple #[.string ⟨C.toArray⟩, .int .i64 0]) ∧ Below W.heap.size W w') := Lib.hid fun W h => by
    have k := text_any P Q (by omega) (by omega) W h.m
    rw [htx] at k
    exact k
  have HC : Hid (∀ W, TT W → Calls Tryd.prog 17 #[.string ⟨C.toArray⟩] W fun e w' => e = .returned (.tuple #[.string ⟨C.toArray⟩, .int .i64 0]) ∧ Below W.heap.size W w') := Lib.hid fun W h => by
    have k := canonical_any C (by omega) W h.v
    rw [hcr] at k
    exact k
  have HP : Hid (∀ W, TT W → Calls Tryd.prog 23 #[.string ⟨C.toArray⟩, .int .i64 128, .string ⟨P.toArray⟩, .string ⟨Q.toArray⟩] W fun e w' => e = .returned (.bool true) ∧ Below W.heap.size W w') := Lib.hid fun W h => by
    have k := parses_any C P Q (by omega) 128 W h
    rw [hrd] at k
    have e : pB (rdP (.inr (P, Q))) P Q = true := by
      show ((P == P && Q == Q) && (((200 : Nat) : Int) == 200)) = true
      simp
    rw [e] at k
    exact k
  clear hP hCe hrd hcr htx hqr hnorm hsafe hps hcl hg hl hq hql hb2 HM
  go_wp2_with fail
  refine (HX.out _ (hT.below hB2)).mono ?_
  rintro e w3 ⟨rfl, hb3⟩
  have hB3 := hB2.trans (hb3.mono hB2.size)
  clear HX hb3 hB2
  go_wp2_with fail
  refine (HC.out _ (hT.below hB3)).mono ?_
  rintro e w4 ⟨rfl, hb4⟩
  have hB4 := hB3.trans (hb4.mono hB3.size)
  clear HC hb4 hB3
  go_wp2_with fail
  refine (HP.out _ (hT.below hB4)).mono ?_
  rintro e w5 ⟨rfl, hb5⟩
  have hB5 := hB4.trans (hb5.mono hB4.size)
  go_wp2_with fail
  go_ret
  exact ⟨rfl, hB5⟩
end Go.Proofs.YtjinedeelkdgiaaDoor
