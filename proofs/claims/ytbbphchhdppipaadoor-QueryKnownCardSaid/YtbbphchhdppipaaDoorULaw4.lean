/-
  The law QueryKnown returns true.
-/
import Derived.Test.YtbbphchhdppipaaDoorULong
namespace Go.Proofs.YtbbphchhdppipaaDoor
open Go.RowKit
def knL : List Pr := [⟨[97, 61], [43], false⟩]
theorem kn_D1 : decR ([97, 37, 51, 100, 61, 37, 50, 66] : List UInt8) = .inr knL := by decide +kernel
theorem kn_D2 : decR ([97, 37, 51] : List UInt8) = .inl 3 := by decide +kernel
theorem kn_C1 : chkN ([97, 32, 98] : List UInt8) = 3 := by decide +kernel
theorem kn_C2 : chkN ([97, 35] : List UInt8) = 3 := by decide +kernel
theorem kn_G1 : getR ([97, 61, 49, 38, 98, 61, 50, 38, 97, 61, 51] : List UInt8) ([97] : List UInt8) = .inr [49] := by decide +kernel
theorem kn_G2 : getR ([97] : List UInt8) ([97] : List UInt8) = .inr [] := by decide +kernel
theorem kn_G3 : getR ([97] : List UInt8) ([98] : List UInt8) = .inl 6 := by decide +kernel
theorem kn_A1 : appR ([120, 61, 49] : List UInt8) ([121, 61, 50] : List UInt8) = .inr [121, 61, 50, 38, 120, 61, 49] := by decide +kernel
theorem kn_A2 : appR ([120, 61, 49] : List UInt8) ([] : List UInt8) = .inr [120, 61, 49] := by decide +kernel
theorem kn_A3 : appR (aN 100) (aN 28) = .inl 4 := by decide +kernel
theorem kn_K1 : canR ([38, 97, 61, 37, 55, 101, 38, 38, 98] : List UInt8) = .inr [97, 61, 126, 38, 98] := by decide +kernel
theorem kn_K2 : canR ([97, 61, 43] : List UInt8) = .inr [97, 61, 37, 50, 66] := by decide +kernel
theorem kn_K3 : canR ([37, 122, 122] : List UInt8) = .inl 3 := by decide +kernel
theorem kn_L1 : litN ([97, 61, 98, 38, 99, 59, 100, 43, 37, 52, 49] : List UInt8) = 0 := by decide +kernel
theorem kn_L2 : litN ([37, 52] : List UInt8) = 3 := by decide +kernel
theorem kn_L3 : litN ([97, 63, 98] : List UInt8) = 3 := by decide +kernel
theorem kn_L4 : litN ([97, 34, 98] : List UInt8) = 3 := by decide +kernel
set_option maxRecDepth 100000 in
set_option maxHeartbeats 8000000 in
theorem known_law (w : World) :
    Calls Tryd.prog 6 #[] w fun e w' => e = .returned (.bool true) ∧ Below w.heap.size w w' := by
  have HD1 : Hid (∀ W, Calls Tryd.prog 22 #[.string ⟨#[97, 37, 51, 100, 61, 37, 50, 66]⟩] W fun e w' => PrsPost W.heap.size (.inr knL) e w' ∧ Below W.heap.size W w') := Lib.hid fun W => by
    have h := decoded_any ([97, 37, 51, 100, 61, 37, 50, 66] : List UInt8) (by decide) W
    rw [kn_D1] at h
    exact h
  have HD2 : Hid (∀ W, Calls Tryd.prog 22 #[.string ⟨#[97, 37, 51]⟩] W fun e w' => PrsPost W.heap.size (.inl 3) e w' ∧ Below W.heap.size W w') := Lib.hid fun W => by
    have h := decoded_any ([97, 37, 51] : List UInt8) (by decide) W
    rw [kn_D2] at h
    exact h
  have HC1 : Hid (∀ W, Calls Tryd.prog 15 #[.string ⟨#[97, 32, 98]⟩] W fun e w' => e = .returned (.int .i64 3) ∧ Below W.heap.size W w') := Lib.hid fun W => by
    have h := check_q ([97, 32, 98] : List UInt8) (by decide) W
    rw [kn_C1] at h
    exact h
  have HC2 : Hid (∀ W, Calls Tryd.prog 15 #[.string ⟨#[97, 35]⟩] W fun e w' => e = .returned (.int .i64 3) ∧ Below W.heap.size W w') := Lib.hid fun W => by
    have h := check_q ([97, 35] : List UInt8) (by decide) W
    rw [kn_C2] at h
    exact h
  have HG1 : Hid (∀ W, Calls Tryd.prog 24 #[.string ⟨#[97, 61, 49, 38, 98, 61, 50, 38, 97, 61, 51]⟩, .string ⟨#[97]⟩] W fun e w' => e = .returned (.tuple #[.string ⟨#[49]⟩, .int .i64 0]) ∧ Below W.heap.size W w') := Lib.hid fun W => by
    have h := get_any ([97, 61, 49, 38, 98, 61, 50, 38, 97, 61, 51] : List UInt8) ([97] : List UInt8) (by decide) W
    rw [kn_G1] at h
    exact h
  have HG2 : Hid (∀ W, Calls Tryd.prog 24 #[.string ⟨#[97]⟩, .string ⟨#[97]⟩] W fun e w' => e = .returned (.tuple #[.string ⟨#[]⟩, .int .i64 0]) ∧ Below W.heap.size W w') := Lib.hid fun W => by
    have h := get_any ([97] : List UInt8) ([97] : List UInt8) (by decide) W
    rw [kn_G2] at h
    exact h
  have HG3 : Hid (∀ W, Calls Tryd.prog 24 #[.string ⟨#[97]⟩, .string ⟨#[98]⟩] W fun e w' => e = .returned (.tuple #[.string ⟨#[]⟩, .int .i64 6]) ∧ Below W.heap.size W w') := Lib.hid fun W => by
    have h := get_any ([97] : List UInt8) ([98] : List UInt8) (by decide) W
    rw [kn_G3] at h
    exact h
  have HA1 : Hid (∀ W, Calls Tryd.prog 31 #[.string ⟨#[120, 61, 49]⟩, .string ⟨#[121, 61, 50]⟩] W fun e w' => e = .returned (.tuple #[.string ⟨#[121, 61, 50, 38, 120, 61, 49]⟩, .int .i64 0]) ∧ Below W.heap.size W w') := Lib.hid fun W => by
    have h := append_any ([120, 61, 49] : List UInt8) ([121, 61, 50] : List UInt8) (by decide) (by decide) W
    rw [kn_A1] at h
    exact h
  have HA2 : Hid (∀ W, Calls Tryd.prog 31 #[.string ⟨#[120, 61, 49]⟩, .string ⟨#[]⟩] W fun e w' => e = .returned (.tuple #[.string ⟨#[120, 61, 49]⟩, .int .i64 0]) ∧ Below W.heap.size W w') := Lib.hid fun W => by
    have h := append_any ([120, 61, 49] : List UInt8) ([] : List UInt8) (by decide) (by decide) W
    rw [kn_A2] at h
    exact h
  have HA3 : Hid (∀ W, Calls Tryd.prog 31 #[.string ⟨(aN 100).toArray⟩, .string ⟨(aN 28).toArray⟩] W fun e w' => e = .returned (.tuple #[.string ⟨#[]⟩, .int .i64 4]) ∧ Below W.heap.size W w') := Lib.hid fun W => by
    have h := append_any (aN 100) (aN 28) (by decide) (by decide) W
    rw [kn_A3] at h
    exact h
  have HK1 : Hid (∀ W, Calls Tryd.prog 26 #[.string ⟨#[38, 97, 61, 37, 55, 101, 38, 38, 98]⟩] W fun e w' => e = .returned (.tuple #[.string ⟨#[97, 61, 126, 38, 98]⟩, .int .i64 0]) ∧ Below W.heap.size W w') := Lib.hid fun W => by
    have h := can_any ([38, 97, 61, 37, 55, 101, 38, 38, 98] : List UInt8) (by decide) W
    rw [kn_K1] at h
    exact h
  have HK2 : Hid (∀ W, Calls Tryd.prog 26 #[.string ⟨#[97, 61, 43]⟩] W fun e w' => e = .returned (.tuple #[.string ⟨#[97, 61, 37, 50, 66]⟩, .int .i64 0]) ∧ Below W.heap.size W w') := Lib.hid fun W => by
    have h := can_any ([97, 61, 43] : List UInt8) (by decide) W
    rw [kn_K2] at h
    exact h
  have HK3 : Hid (∀ W, Calls Tryd.prog 26 #[.string ⟨#[37, 122, 122]⟩] W fun e w' => e = .returned (.tuple #[.string ⟨#[]⟩, .int .i64 3]) ∧ Below W.heap.size W w') := Lib.hid fun W => by
    have h := can_any ([37, 122, 122] : List UInt8) (by decide) W
    rw [kn_K3] at h
    exact h
  have HL1 : Hid (∀ W, Calls Tryd.prog 17 #[.string ⟨#[97, 61, 98, 38, 99, 59, 100, 43, 37, 52, 49]⟩] W fun e w' => e = .returned (.int .i64 0) ∧ Below W.heap.size W w') := Lib.hid fun W => by
    have h := literal_q ([97, 61, 98, 38, 99, 59, 100, 43, 37, 52, 49] : List UInt8) (by decide) W
    rw [kn_L1] at h
    exact h
  have HL2 : Hid (∀ W, Calls Tryd.prog 17 #[.string ⟨#[37, 52]⟩] W fun e w' => e = .returned (.int .i64 3) ∧ Below W.heap.size W w') := Lib.hid fun W => by
    have h := literal_q ([37, 52] : List UInt8) (by decide) W
    rw [kn_L2] at h
    exact h
  have HL3 : Hid (∀ W, Calls Tryd.prog 17 #[.string ⟨#[97, 63, 98]⟩] W fun e w' => e = .returned (.int .i64 3) ∧ Below W.heap.size W w') := Lib.hid fun W => by
    have h := literal_q ([97, 63, 98] : List UInt8) (by decide) W
    rw [kn_L3] at h
    exact h
  have HL4 : Hid (∀ W, Calls Tryd.prog 17 #[.string ⟨#[97, 34, 98]⟩] W fun e w' => e = .returned (.int .i64 3) ∧ Below W.heap.size W w') := Lib.hid fun W => by
    have h := literal_q ([97, 34, 98] : List UInt8) (by decide) W
    rw [kn_L4] at h
    exact h
  have T1 : Hid (∀ W, Calls Tryd.prog 33 #[.string ⟨#[121, 61, 50, 38, 120, 61, 49]⟩, .int .i64 0] W fun x w' => x = .returned (.string ⟨#[121, 61, 50, 38, 120, 61, 49]⟩) ∧ Below W.heap.size W w') := Lib.hid fun W => text_any ([121, 61, 50, 38, 120, 61, 49] : List UInt8) 0 (by decide) W
  have T2 : Hid (∀ W, Calls Tryd.prog 33 #[.string ⟨#[120, 61, 49]⟩, .int .i64 0] W fun x w' => x = .returned (.string ⟨#[120, 61, 49]⟩) ∧ Below W.heap.size W w') := Lib.hid fun W => text_any ([120, 61, 49] : List UInt8) 0 (by decide) W
  have T3 : Hid (∀ W, Calls Tryd.prog 33 #[.string ⟨#[]⟩, .int .i64 4] W fun x w' => x = .returned (.string ⟨#[108, 111, 110, 103]⟩) ∧ Below W.heap.size W w') := Lib.hid fun W => text_any ([] : List UInt8) 4 (by decide) W
  have T4 : Hid (∀ W, Calls Tryd.prog 33 #[.string ⟨#[97, 61, 126, 38, 98]⟩, .int .i64 0] W fun x w' => x = .returned (.string ⟨#[97, 61, 126, 38, 98]⟩) ∧ Below W.heap.size W w') := Lib.hid fun W => text_any ([97, 61, 126, 38, 98] : List UInt8) 0 (by decide) W
  have T5 : Hid (∀ W, Calls Tryd.prog 33 #[.string ⟨#[97, 61, 37, 50, 66]⟩, .int .i64 0] W fun x w' => x = .returned (.string ⟨#[97, 61, 37, 50, 66]⟩) ∧ Below W.heap.size W w') := Lib.hid fun W => text_any ([97, 61, 37, 50, 66] : List UInt8) 0 (by decide) W
  have T6 : Hid (∀ W, Calls Tryd.prog 33 #[.string ⟨#[]⟩, .int .i64 3] W fun x w' => x = .returned (.string ⟨#[102, 111, 114, 109]⟩) ∧ Below W.heap.size W w') := Lib.hid fun W => text_any ([] : List UInt8) 3 (by decide) W
  have HS : Hid (∀ (W : World) (p : Option Addr) (c : Nat) (v2 : Value), PrsAt W (.slice p 1 c) knL → PrsAt W v2 knL → Calls Tryd.prog 21 #[.slice p 1 c, v2] W fun e w' => e = .returned (.bool true) ∧ Below W.heap.size W w') := Lib.hid fun W p c v2 h1 h2 => same_any knL (by decide) _ v2 W h1 h2
  have N100 : Hid (∀ W, Calls Tryd.prog 34 #[.int .i64 100] W fun e w' => e = .returned (.string ⟨(aN 100).toArray⟩) ∧ Below W.heap.size W w') := Lib.hid fun W => long_any 100 (by decide) W
  have N28 : Hid (∀ W, Calls Tryd.prog 34 #[.int .i64 28] W fun e w' => e = .returned (.string ⟨(aN 28).toArray⟩) ∧ Below W.heap.size W w') := Lib.hid fun W => long_any 28 (by decide) W
  have E3 : Hid (∀ W, Calls Tryd.prog 35 #[.int .i64 3] W fun e w' => e = .returned (.string ⟨#[102, 111, 114, 109]⟩) ∧ W = w') := Lib.hid fun W => error3_any W
  have E4 : Hid (∀ W, Calls Tryd.prog 35 #[.int .i64 4] W fun e w' => e = .returned (.string ⟨#[108, 111, 110, 103]⟩) ∧ W = w') := Lib.hid fun W => error4_any W
  go_enter Tryd.func6, Tryd.ntmps6
  go_wp2_with fail
  refine (HD1.out _).mono ?_
  rintro e w1 ⟨⟨v, rfl, hrow⟩, hb1⟩
  have hpr := prs_of_own hrow
  obtain ⟨p, c, rfl⟩ : ∃ p c, v = .slice p 1 c := own_slice hrow
  clear hrow HD1
  go_wp2_with fail
  refine (HD2.out _).mono ?_
  rintro e w2 ⟨rfl, hb2⟩
  have hB2 := hb1.trans (hb2.mono hb1.size)
  have hB3 := hB2.alloc hB2.size (.cells (prsC knL).toArray 40)
  have h1 := hpr.below (hb2.alloc hb2.size (.cells (prsC knL).toArray 40)) (Nat.le_refl _)
  have h2 := prs_lit w2 40 knL
  clear hb1 hb2 hpr HD2
  go_wp2_with fail
  refine (HS.out _ _ _ _ h1 h2).mono ?_
  rintro e w3 ⟨rfl, hb3⟩
  have hB4 := hB3.trans (hb3.mono hB3.size)
  clear hb3 hB3 hB2 h1 h2 HS
  go_wp2_with fail
  refine (HC1.out _).mono ?_
  rintro e w5 ⟨rfl, hb5⟩
  have hB5 := hB4.trans (hb5.mono hB4.size)
  clear hb5 hB4 HC1
  go_wp2_with fail
  refine (HC2.out _).mono ?_
  rintro e w6 ⟨rfl, hb6⟩
  have hB6 := hB5.trans (hb6.mono hB5.size)
  clear hb6 hB5 HC2
  go_wp2_with fail
  refine (HG1.out _).mono ?_
  rintro e w7 ⟨rfl, hb7⟩
  have hB7 := hB6.trans (hb7.mono hB6.size)
  clear hb7 hB6 HG1
  go_wp2_with fail
  refine (HG2.out _).mono ?_
  rintro e w8 ⟨rfl, hb8⟩
  have hB8 := hB7.trans (hb8.mono hB7.size)
  clear hb8 hB7 HG2
  go_wp2_with fail
  refine (HG3.out _).mono ?_
  rintro e w9 ⟨rfl, hb9⟩
  have hB9 := hB8.trans (hb9.mono hB8.size)
  clear hb9 hB8 HG3
  go_wp2_with fail
  refine (HA1.out _).mono ?_
  rintro e w10 ⟨rfl, hb10⟩
  have hB10 := hB9.trans (hb10.mono hB9.size)
  clear hb10 hB9 HA1
  go_wp2_with fail
  refine (T1.out _).mono ?_
  rintro e w11 ⟨rfl, hb11⟩
  have hB11 := hB10.trans (hb11.mono hB10.size)
  clear hb11 hB10 T1
  go_wp2_with fail
  refine (HA2.out _).mono ?_
  rintro e w12 ⟨rfl, hb12⟩
  have hB12 := hB11.trans (hb12.mono hB11.size)
  clear hb12 hB11 HA2
  go_wp2_with fail
  refine (T2.out _).mono ?_
  rintro e w13 ⟨rfl, hb13⟩
  have hB13 := hB12.trans (hb13.mono hB12.size)
  clear hb13 hB12 T2
  go_wp2_with fail
  refine (N100.out _).mono ?_
  rintro e w14 ⟨rfl, hb14⟩
  have hB14 := hB13.trans (hb14.mono hB13.size)
  clear hb14 hB13 N100
  go_wp2_with fail
  refine (N28.out _).mono ?_
  rintro e w15 ⟨rfl, hb15⟩
  have hB15 := hB14.trans (hb15.mono hB14.size)
  clear hb15 hB14 N28
  go_wp2_with fail
  refine (HA3.out _).mono ?_
  rintro e w16 ⟨rfl, hb16⟩
  have hB16 := hB15.trans (hb16.mono hB15.size)
  clear hb16 hB15 HA3
  go_wp2_with fail
  refine (T3.out _).mono ?_
  rintro e w17 ⟨rfl, hb17⟩
  have hB17 := hB16.trans (hb17.mono hB16.size)
  clear hb17 hB16 T3
  go_wp2_with fail
  refine (E4.out _).mono ?_
  rintro e w' ⟨rfl, rfl⟩
  go_wp2_with fail
  refine (HK1.out _).mono ?_
  rintro e w18 ⟨rfl, hb18⟩
  have hB18 := hB17.trans (hb18.mono hB17.size)
  clear hb18 hB17 HK1
  go_wp2_with fail
  refine (T4.out _).mono ?_
  rintro e w19 ⟨rfl, hb19⟩
  have hB19 := hB18.trans (hb19.mono hB18.size)
  clear hb19 hB18 T4
  go_wp2_with fail
  refine (HK2.out _).mono ?_
  rintro e w20 ⟨rfl, hb20⟩
  have hB20 := hB19.trans (hb20.mono hB19.size)
  clear hb20 hB19 HK2
  go_wp2_with fail
  refine (T5.out _).mono ?_
  rintro e w21 ⟨rfl, hb21⟩
  have hB21 := hB20.trans (hb21.mono hB20.size)
  clear hb21 hB20 T5
  go_wp2_with fail
  refine (HK3.out _).mono ?_
  rintro e w22 ⟨rfl, hb22⟩
  have hB22 := hB21.trans (hb22.mono hB21.size)
  clear hb22 hB21 HK3
  go_wp2_with fail
  refine (T6.out _).mono ?_
  rintro e w23 ⟨rfl, hb23⟩
  have hB23 := hB22.trans (hb23.mono hB22.size)
  clear hb23 hB22 T6
  go_wp2_with fail
  refine (E3.out _).mono ?_
  rintro e w' ⟨rfl, rfl⟩
  go_wp2_with fail
  refine (HL1.out _).mono ?_
  rintro e w24 ⟨rfl, hb24⟩
  have hB24 := hB23.trans (hb24.mono hB23.size)
  clear hb24 hB23 HL1
  go_wp2_with fail
  refine (HL2.out _).mono ?_
  rintro e w25 ⟨rfl, hb25⟩
  have hB25 := hB24.trans (hb25.mono hB24.size)
  clear hb25 hB24 HL2
  go_wp2_with fail
  refine (HL3.out _).mono ?_
  rintro e w26 ⟨rfl, hb26⟩
  have hB26 := hB25.trans (hb26.mono hB25.size)
  clear hb26 hB25 HL3
  go_wp2_with fail
  refine (HL4.out _).mono ?_
  rintro e w27 ⟨rfl, hb27⟩
  have hB27 := hB26.trans (hb27.mono hB26.size)
  clear hb27 hB26 HL4
  go_wp2_with fail
  refine (awake_any _).mono ?_
  rintro e wA ⟨rfl, hbA⟩
  go_wp2_with fail
  go_ret
  exact ⟨rfl, hB27.trans (hbA.mono hB27.size)⟩
end Go.Proofs.YtbbphchhdppipaaDoor
