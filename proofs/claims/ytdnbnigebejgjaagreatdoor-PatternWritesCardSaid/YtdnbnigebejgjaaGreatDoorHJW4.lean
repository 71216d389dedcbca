/-
  The reference's class for every set.
-/
import Derived.Test.YtdnbnigebejgjaaGreatDoorHW1
namespace Go.Proofs.YtdnbnigebejgjaaGreatDoor
open Go.RowKit Go.Shelf
theorem letterN (m : List UInt8) (hm : m.length < 1000) (x : Nat) (hx : x < 256) (W : World) :
    Calls Tryz.prog 84 #[.int .u8 (x : Int), .string ⟨m.toArray⟩] W fun e w' => e = .returned (.string ⟨(quo m (UInt8.ofNat x)).toArray⟩) ∧ Below W.heap.size W w' := by
  have h := letter_any m hm (UInt8.ofNat x) W
  rw [UInt8.toNat_ofNat_of_lt' hx] at h
  exact h
set_option maxHeartbeats 8000000 in
set_option maxRecDepth 100000 in
theorem class19_any (s : WSet) (W : World) :
    Calls Tryz.prog 86 #[s.v] W fun e w' => e = .returned (.string ⟨(clsT s).toArray⟩) ∧ Below W.heap.size W w' := by
  obtain ⟨C, hC⟩ : ∃ C, (runsR s).flatMap runT = C := ⟨_, rfl⟩
  have hR : clsT s = [91] ++ C ++ [93] := by rw [← hC]; rfl
  have hlc : C.length ≤ 2000 := by
    have := clsT_len s
    rw [hR] at this
    simp only [List.length_append, List.length_cons, List.length_nil] at this
    omega
  have h0 : [91] ++ (runsG s 300 0).flatMap runT = [91] ++ C := by rw [runsG_all, hC]
  have HR := Lib.hid hR
  have H0 := Lib.hid h0
  have HRT : Hid True := Lib.hid trivial
  clear hR h0 hC
  obtain ⟨a, b, c, d⟩ := s
  have HHA := Lib.hid fun n hn w => refHas_any a b c d n hn w
  unfold WSet.v
  go_enter Tryz.func86, Tryz.ntmps86
  go_wp2_with fail
  go_loopw [3, 4] (fun ov iv wr => ∃ (k : Nat) (T : List UInt8) (f : Nat), k ≤ 256 ∧ ov = .string ⟨T.toArray⟩ ∧ iv = .int .i64 k ∧ 256 < f + k ∧ Hid (T ++ (runsG ⟨a, b, c, d⟩ f k).flatMap runT = [91] ++ C) ∧ Hid (Blk wr W.heap.size ⟨a, b, c, d⟩) ∧ Hid (Below W.heap.size W wr)) (fun _ iv _ => 256 - (intOf iv).toNat)
  case atStart => exact ⟨0, [91], 300, by omega, rfl, rfl, by omega, H0, Lib.hid (Blk.new W ⟨a, b, c, d⟩), Lib.hid ((Below.refl _ W).alloc (Nat.le_refl _) _)⟩
  case round =>
    obtain ⟨k, T, f, hk, rfl, rfl, hf, hall, hs, hB⟩ := hrel
    have hTl : T.length ≤ 2001 := by
      have := congrArg List.length hall.out
      simp only [List.length_append, List.length_cons, List.length_nil] at this
      omega
    by_cases hlt : k < 256
    · have h1 : decide ((k : Int) < 256) = true := decide_eq_true (by omega)
      have hw8 : IntKind.u8.wrap (k : Int) = (k : Int) := by rw [IntKind.wrap_u8']; omega
      obtain ⟨f, rfl⟩ : ∃ g, f = g + 1 := ⟨f - 1, by omega⟩
      obtain ⟨c0, c1, c2, c3⟩ := hs.out.cells
      go_wp2_with fail
      refine (HHA.out k hlt _).mono ?_
      rintro x w3 ⟨rfl, hb⟩
      have h3 := Lib.hid (hs.out.below hb hs.out.lt)
      have hB3 := Lib.hid (hB.out.trans (hb.mono hB.out.size))
      clear hb c0 c1 c2 c3 hs hB
      have hal := hall.out
      rw [runsG, if_pos hlt] at hal
      clear hall
      cases hh : (WSet.mk a b c d).has k with
      | false =>
        rw [hh, if_neg (by decide)] at hal
        have HAL := Lib.hid hal
        have hw : IntKind.i64.wrap ((k : Int) + 1) = (k : Int) + 1 := jwrap (by omega) (by omega)
        clear hal hh
        go_wp2_with fail
        go_roundw
        case rel => exact ⟨k + 1, T, f, by omega, rfl, by go_num, by omega, HAL, h3, hB3⟩
        case measure => simp [intOf]; omega
      | true =>
        rw [hh, if_pos rfl, List.flatMap_cons] at hal
        obtain ⟨tq, hto0⟩ : ∃ t, toF ⟨a, b, c, d⟩ (255 - k) k = t := ⟨_, rfl⟩
        rw [hto0] at hal
        have HRT : Hid (∀ t, t = tq → T ++ (runT (k, t) ++ (runsG ⟨a, b, c, d⟩ f (t + 1)).flatMap runT) = [91] ++ C) := Lib.hid (fun t e => by subst e; exact hal)
        have HTO := Lib.hid hto0
        clear hal hh hto0
        go_wp2_with fail
        go_loopw [5] (fun tv wr => ∃ t : Nat, k ≤ t ∧ t ≤ 255 ∧ tv = .int .i64 t ∧ Hid (toF ⟨a, b, c, d⟩ (255 - t) t = tq) ∧ Hid (Blk wr W.heap.size ⟨a, b, c, d⟩) ∧ Hid (Below W.heap.size W wr)) (fun tv _ => 255 - (intOf tv).toNat)
        case atStart => exact ⟨k, Nat.le_refl _, by omega, rfl, HTO, h3, hB3⟩
        case round =>
          obtain ⟨t, hkt, ht, rfl, hte, hs, hB⟩ := hrel
          by_cases hl : t < 255
          · have h2 : decide ((t : Int) < 255) = true := decide_eq_true (by omega)
            have n2 : decide (t < 255) = true := decide_eq_true hl
            have wt1 : IntKind.i64.wrap ((t : Int) + 1) = ((t + 1 : Nat) : Int) := by rw [jwrap (by omega) (by omega)]; omega
            have wt8 : IntKind.u8.wrap ((t + 1 : Nat) : Int) = ((t + 1 : Nat) : Int) := by rw [IntKind.wrap_u8']; omega
            obtain ⟨c0, c1, c2, c3⟩ := hs.out.cells
            go_wp2_with fail
            refine (HHA.out (t + 1) (by omega) _).mono ?_
            rintro x w4 ⟨rfl, hb⟩
            have h4 := Lib.hid (hs.out.below hb hs.out.lt)
            have hB4 := Lib.hid (hB.out.trans (hb.mono hB.out.size))
            clear hb c0 c1 c2 c3
            have hte := hte.out
            rw [show 255 - t = (255 - (t + 1)) + 1 by omega, toF] at hte
            cases hh : (WSet.mk a b c d).has (t + 1) with
            | true =>
              rw [hh, if_pos rfl] at hte
              have hte := Lib.hid hte
              clear hh
              go_wp2_with fail
              go_roundw
              case rel => exact ⟨t + 1, by omega, by omega, by go_num, hte, h4, hB4⟩
              case measure => simp [intOf]; omega
            | false =>
              rw [hh, if_neg (by decide)] at hte
              have hrt := Lib.hid (HRT.out t hte)
              clear hte hh h2 n2 wt1 wt8
              obtain ⟨T1, hT1⟩ : ∃ T1, T ++ quo [94, 93, 45, 92] (UInt8.ofNat k) = T1 := ⟨_, rfl⟩
              have l1 : T1.length ≤ 3000 := by
                rw [← hT1, List.length_append]
                have := (quo_len [94, 93, 45, 92] (UInt8.ofNat k)).2
                omega
              have k2 : ∀ w : World, (Op.stringOp .add ⟨T.toArray⟩ ⟨(quo [94, 93, 45, 92] (UInt8.ofNat k)).toArray⟩).run Tryz.prog w = .ok (.string ⟨T1.toArray⟩) w := fun w => by
                rw [← hT1]
                exact jstr_add _ _ (by have := (quo_len [94, 93, 45, 92] (UInt8.ofNat k)).2; omega)
              have HL := Lib.hid fun w => letterN [94, 93, 45, 92] (by decide) k hlt w
              have HT1 := Lib.hid hT1
              obtain ⟨Q, hQ⟩ : ∃ Q, quo [94, 93, 45, 92] (UInt8.ofNat k) = Q := ⟨_, rfl⟩
              rw [hQ] at k2 HL HT1
              have HQ := Lib.hid hQ
              clear hQ hT1
              go_wp2_with fail
              refine (HL.out _).mono ?_
              rintro e w7 ⟨rfl, hb7⟩
              have h7 := Lib.hid (h4.out.below hb7 h4.out.lt)
              have hB7 := Lib.hid (hB4.out.trans (hb7.mono hB4.out.size))
              clear hb7 HL
              have wk : IntKind.i64.wrap ((k : Int) + 1) = ((k + 1 : Nat) : Int) := by rw [jwrap (by omega) (by omega)]; omega
              have wt : IntKind.i64.wrap ((t : Int) + 1) = ((t + 1 : Nat) : Int) := by rw [jwrap (by omega) (by omega)]; omega
              by_cases g1 : k + 1 < t
              · have d1 : decide (((k + 1 : Nat) : Int) < (t : Int)) = true := decide_eq_true (by omega)
                have d2 : decide ((k : Int) < (t : Int)) = true := decide_eq_true (by omega)
                have n1 : decide (k + 1 < t) = true := decide_eq_true g1
                have d3 : decide ((k : Int) + 1 < (t : Int)) = true := decide_eq_true (by omega)
                have n2 : decide (k < t) = true := decide_eq_true (by omega)
                obtain ⟨T2, hT2⟩ : ∃ T2, T1 ++ [45] = T2 := ⟨_, rfl⟩
                have l2 : T2.length ≤ 3001 := by rw [← hT2, List.length_append]; simp; omega
                have k3 : ∀ w : World, (Op.stringOp .add ⟨T1.toArray⟩ ⟨#[45]⟩).run Tryz.prog w = .ok (.string ⟨T2.toArray⟩) w := fun w => by rw [← hT2]; exact jstr_add _ _ (by simp; omega)
                obtain ⟨P, hP⟩ : ∃ P, quo [94, 93, 45, 92] (UInt8.ofNat t) = P := ⟨_, rfl⟩
                have HL2 := Lib.hid fun w => letterN [94, 93, 45, 92] (by decide) t (by omega) w
                rw [hP] at HL2
                obtain ⟨T3, hT3⟩ : ∃ T3, T2 ++ P = T3 := ⟨_, rfl⟩
                have k4 : ∀ w : World, (Op.stringOp .add ⟨T2.toArray⟩ ⟨P.toArray⟩).run Tryz.prog w = .ok (.string ⟨T3.toArray⟩) w := fun w => by rw [← hT3]; exact jstr_add _ _ (by have := (quo_len [94, 93, 45, 92] (UInt8.ofNat t)).2; rw [hP] at this; omega)
                have hfin : Hid (T3 ++ (runsG ⟨a, b, c, d⟩ f (t + 1)).flatMap runT = [91] ++ C) := Lib.hid (by
                  rw [← hrt.out, ← hT3, ← hT2, ← HT1.out]
                  unfold runT
                  dsimp only
                  rw [HQ.out, hP, if_pos (by omega), if_pos (by omega)]
                  simp only [List.append_assoc])
                have hB1 : t + 1 ≤ 256 := by omega
                have hf1 : 256 < f + (t + 1) := by omega
                have w8 : IntKind.u8.wrap (t : Int) = (t : Int) := by rw [IntKind.wrap_u8']; omega
                have HL2B := HL2
                clear hT2 hT3 hP g1
                go_wp2_with fail
                refine (HL2B.out _).mono ?_
                rintro e w8 ⟨rfl, hb8⟩
                have h8 := Lib.hid (h7.out.below hb8 h7.out.lt)
                have hB8 := Lib.hid (hB7.out.trans (hb8.mono hB7.out.size))
                clear hb8
                go_wp2_with fail
                go_roundw
                case rel => exact ⟨t + 1, T3, f, hB1, rfl, by go_num, hf1, hfin, h8, hB8⟩
                case measure => simp [intOf]; omega
              · have d1 : decide (((k + 1 : Nat) : Int) < (t : Int)) = false := decide_eq_false (by omega)
                have n1 : decide (k + 1 < t) = false := decide_eq_false g1
                have d3 : decide ((k : Int) + 1 < (t : Int)) = false := decide_eq_false (by omega)
                by_cases g2 : k < t
                · have d2 : decide ((k : Int) < (t : Int)) = true := decide_eq_true (by omega)
                  have n2 : decide (k < t) = true := decide_eq_true (by omega)
                  obtain ⟨P, hP⟩ : ∃ P, quo [94, 93, 45, 92] (UInt8.ofNat t) = P := ⟨_, rfl⟩
                  have HL2 := Lib.hid fun w => letterN [94, 93, 45, 92] (by decide) t (by omega) w
                  rw [hP] at HL2
                  obtain ⟨T3, hT3⟩ : ∃ T3, T1 ++ P = T3 := ⟨_, rfl⟩
                  have k4 : ∀ w : World, (Op.stringOp .add ⟨T1.toArray⟩ ⟨P.toArray⟩).run Tryz.prog w = .ok (.string ⟨T3.toArray⟩) w := fun w => by rw [← hT3]; exact jstr_add _ _ (by have := (quo_len [94, 93, 45, 92] (UInt8.ofNat t)).2; rw [hP] at this; omega)
                  have hfin : Hid (T3 ++ (runsG ⟨a, b, c, d⟩ f (t + 1)).flatMap runT = [91] ++ C) := Lib.hid (by
                    rw [← hrt.out, ← hT3, ← HT1.out]
                    unfold runT
                    dsimp only
                    rw [HQ.out, hP, if_neg (by omega), if_pos (by omega)]
                    simp only [List.append_assoc, List.nil_append])
                  have hB1 : t + 1 ≤ 256 := by omega
                  have hf1 : 256 < f + (t + 1) := by omega
                  have w8 : IntKind.u8.wrap (t : Int) = (t : Int) := by rw [IntKind.wrap_u8']; omega
                  clear hT3 hP g1 g2
                  go_wp2_with fail
                  refine (HL2.out _).mono ?_
                  rintro e w8 ⟨rfl, hb8⟩
                  have h8 := Lib.hid (h7.out.below hb8 h7.out.lt)
                  have hB8 := Lib.hid (hB7.out.trans (hb8.mono hB7.out.size))
                  clear hb8
                  go_wp2_with fail
                  go_roundw
                  case rel => exact ⟨t + 1, T3, f, hB1, rfl, by go_num, hf1, hfin, h8, hB8⟩
                  case measure => simp [intOf]; omega
                · obtain rfl : t = k := by omega
                  have d2 : decide ((t : Int) < (t : Int)) = false := decide_eq_false (by omega)
                  have hfin : Hid (T1 ++ (runsG ⟨a, b, c, d⟩ f (t + 1)).flatMap runT = [91] ++ C) := Lib.hid (by
                    rw [← hrt.out, ← HT1.out]
                    unfold runT
                    dsimp only
                    rw [HQ.out, if_neg (by omega), if_neg (by omega)]
                    simp only [List.append_assoc, List.append_nil])
                  have hB1 : t + 1 ≤ 256 := by omega
                  have hf1 : 256 < f + (t + 1) := by omega
                  clear g1 g2
                  go_wp2_with fail
                  go_roundw
                  case rel => exact ⟨t + 1, T1, f, hB1, rfl, by go_num, hf1, hfin, h7, hB7⟩
                  case measure => simp [intOf]; omega
          · have h2 : decide ((t : Int) < 255) = false := decide_eq_false (by omega)
            have n2 : decide (t < 255) = false := decide_eq_false hl
            have hte := hte.out
            rw [show 255 - t = 0 by omega, toF] at hte
            have hrt := Lib.hid (HRT.out t hte)
            clear hte
            obtain ⟨T1, hT1⟩ : ∃ T1, T ++ quo [94, 93, 45, 92] (UInt8.ofNat k) = T1 := ⟨_, rfl⟩
            have l1 : T1.length ≤ 3000 := by
              rw [← hT1, List.length_append]
              have := (quo_len [94, 93, 45, 92] (UInt8.ofNat k)).2
              omega
            have k2 : ∀ w : World, (Op.stringOp .add ⟨T.toArray⟩ ⟨(quo [94, 93, 45, 92] (UInt8.ofNat k)).toArray⟩).run Tryz.prog w = .ok (.string ⟨T1.toArray⟩) w := fun w => by
              rw [← hT1]
              exact jstr_add _ _ (by have := (quo_len [94, 93, 45, 92] (UInt8.ofNat k)).2; omega)
            have HL := Lib.hid fun w => letterN [94, 93, 45, 92] (by decide) k hlt w
            have HT1 := Lib.hid hT1
            obtain ⟨Q, hQ⟩ : ∃ Q, quo [94, 93, 45, 92] (UInt8.ofNat k) = Q := ⟨_, rfl⟩
            rw [hQ] at k2 HL HT1
            have HQ := Lib.hid hQ
            clear hQ hT1
            go_wp2_with fail
            refine (HL.out _).mono ?_
            rintro e w7 ⟨rfl, hb7⟩
            have h7 := Lib.hid (hs.out.below hb7 hs.out.lt)
            have hB7 := Lib.hid (hB.out.trans (hb7.mono hB.out.size))
            clear hb7 HL
            have wk : IntKind.i64.wrap ((k : Int) + 1) = ((k + 1 : Nat) : Int) := by rw [jwrap (by omega) (by omega)]; omega
            have wt : IntKind.i64.wrap ((t : Int) + 1) = ((t + 1 : Nat) : Int) := by rw [jwrap (by omega) (by omega)]; omega
            by_cases g1 : k + 1 < t
            · have d1 : decide (((k + 1 : Nat) : Int) < (t : Int)) = true := decide_eq_true (by omega)
              have d2 : decide ((k : Int) < (t : Int)) = true := decide_eq_true (by omega)
              have n1 : decide (k + 1 < t) = true := decide_eq_true g1
              have d3 : decide ((k : Int) + 1 < (t : Int)) = true := decide_eq_true (by omega)
              have n2 : decide (k < t) = true := decide_eq_true (by omega)
              obtain ⟨T2, hT2⟩ : ∃ T2, T1 ++ [45] = T2 := ⟨_, rfl⟩
              have l2 : T2.length ≤ 3001 := by rw [← hT2, List.length_append]; simp; omega
              have k3 : ∀ w : World, (Op.stringOp .add ⟨T1.toArray⟩ ⟨#[45]⟩).run Tryz.prog w = .ok (.string ⟨T2.toArray⟩) w := fun w => by rw [← hT2]; exact jstr_add _ _ (by simp; omega)
              obtain ⟨P, hP⟩ : ∃ P, quo [94, 93, 45, 92] (UInt8.ofNat t) = P := ⟨_, rfl⟩
              have HL2 := Lib.hid fun w => letterN [94, 93, 45, 92] (by decide) t (by omega) w
              rw [hP] at HL2
              obtain ⟨T3, hT3⟩ : ∃ T3, T2 ++ P = T3 := ⟨_, rfl⟩
              have k4 : ∀ w : World, (Op.stringOp .add ⟨T2.toArray⟩ ⟨P.toArray⟩).run Tryz.prog w = .ok (.string ⟨T3.toArray⟩) w := fun w => by rw [← hT3]; exact jstr_add _ _ (by have := (quo_len [94, 93, 45, 92] (UInt8.ofNat t)).2; rw [hP] at this; omega)
              have hfin : Hid (T3 ++ (runsG ⟨a, b, c, d⟩ f (t + 1)).flatMap runT = [91] ++ C) := Lib.hid (by
                rw [← hrt.out, ← hT3, ← hT2, ← HT1.out]
                unfold runT
                dsimp only
                rw [HQ.out, hP, if_pos (by omega), if_pos (by omega)]
                simp only [List.append_assoc])
              have hB1 : t + 1 ≤ 256 := by omega
              have hf1 : 256 < f + (t + 1) := by omega
              have w8 : IntKind.u8.wrap (t : Int) = (t : Int) := by rw [IntKind.wrap_u8']; omega
              have HL2B := HL2
              clear hT2 hT3 hP g1
              go_wp2_with fail
              refine (HL2B.out _).mono ?_
              rintro e w8 ⟨rfl, hb8⟩
              have h8 := Lib.hid (h7.out.below hb8 h7.out.lt)
              have hB8 := Lib.hid (hB7.out.trans (hb8.mono hB7.out.size))
              clear hb8
              go_wp2_with fail
              go_roundw
              case rel => exact ⟨t + 1, T3, f, hB1, rfl, by go_num, hf1, hfin, h8, hB8⟩
              case measure => simp [intOf]; omega
            · have d1 : decide (((k + 1 : Nat) : Int) < (t : Int)) = false := decide_eq_false (by omega)
              have n1 : decide (k + 1 < t) = false := decide_eq_false g1
              have d3 : decide ((k : Int) + 1 < (t : Int)) = false := decide_eq_false (by omega)
              by_cases g2 : k < t
              · have d2 : decide ((k : Int) < (t : Int)) = true := decide_eq_true (by omega)
                have n2 : decide (k < t) = true := decide_eq_true (by omega)
                obtain ⟨P, hP⟩ : ∃ P, quo [94, 93, 45, 92] (UInt8.ofNat t) = P := ⟨_, rfl⟩
                have HL2 := Lib.hid fun w => letterN [94, 93, 45, 92] (by decide) t (by omega) w
                rw [hP] at HL2
                obtain ⟨T3, hT3⟩ : ∃ T3, T1 ++ P = T3 := ⟨_, rfl⟩
                have k4 : ∀ w : World, (Op.stringOp .add ⟨T1.toArray⟩ ⟨P.toArray⟩).run Tryz.prog w = .ok (.string ⟨T3.toArray⟩) w := fun w => by rw [← hT3]; exact jstr_add _ _ (by have := (quo_len [94, 93, 45, 92] (UInt8.ofNat t)).2; rw [hP] at this; omega)
                have hfin : Hid (T3 ++ (runsG ⟨a, b, c, d⟩ f (t + 1)).flatMap runT = [91] ++ C) := Lib.hid (by
                  rw [← hrt.out, ← hT3, ← HT1.out]
                  unfold runT
                  dsimp only
                  rw [HQ.out, hP, if_neg (by omega), if_pos (by omega)]
                  simp only [List.append_assoc, List.nil_append])
                have hB1 : t + 1 ≤ 256 := by omega
                have hf1 : 256 < f + (t + 1) := by omega
                have w8 : IntKind.u8.wrap (t : Int) = (t : Int) := by rw [IntKind.wrap_u8']; omega
                clear hT3 hP g1 g2
                go_wp2_with fail
                refine (HL2.out _).mono ?_
                rintro e w8 ⟨rfl, hb8⟩
                have h8 := Lib.hid (h7.out.below hb8 h7.out.lt)
                have hB8 := Lib.hid (hB7.out.trans (hb8.mono hB7.out.size))
                clear hb8
                go_wp2_with fail
                go_roundw
                case rel => exact ⟨t + 1, T3, f, hB1, rfl, by go_num, hf1, hfin, h8, hB8⟩
                case measure => simp [intOf]; omega
              · obtain rfl : t = k := by omega
                have d2 : decide ((t : Int) < (t : Int)) = false := decide_eq_false (by omega)
                have hfin : Hid (T1 ++ (runsG ⟨a, b, c, d⟩ f (t + 1)).flatMap runT = [91] ++ C) := Lib.hid (by
                  rw [← hrt.out, ← HT1.out]
                  unfold runT
                  dsimp only
                  rw [HQ.out, if_neg (by omega), if_neg (by omega)]
                  simp only [List.append_assoc, List.append_nil])
                have hB1 : t + 1 ≤ 256 := by omega
                have hf1 : 256 < f + (t + 1) := by omega
                clear g1 g2
                go_wp2_with fail
                go_roundw
                case rel => exact ⟨t + 1, T1, f, hB1, rfl, by go_num, hf1, hfin, h7, hB7⟩
                case measure => simp [intOf]; omega
    · obtain rfl : k = 256 := by omega
      have hal := hall.out
      have hz : runsG ⟨a, b, c, d⟩ f 256 = [] := by
        cases f with
        | zero => rfl
        | succ f => rw [runsG, if_neg (by omega)]
      rw [hz, List.flatMap_nil, List.append_nil] at hal
      have HRS : Hid (T ++ [93] = clsT ⟨a, b, c, d⟩) := Lib.hid (by rw [HR.out, hal])
      have k9 : ∀ w : World, (Op.stringOp .add ⟨T.toArray⟩ ⟨#[93]⟩).run Tryz.prog w = .ok (.string ⟨(T ++ [93]).toArray⟩) w := fun w => jstr_add T [93] (by simp; omega)
      clear hal hz hall
      go_wp2_with fail
      go_ret
      exact ⟨by rw [← HRS.out]; rfl, hB.out⟩
end Go.Proofs.YtdnbnigebejgjaaGreatDoor
