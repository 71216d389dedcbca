/-
  The law LineLimits returns true for every input.
-/
import Derived.Test.YtfagjhadfonhdaaLMade
namespace Go.Proofs.Ytfagjhadfonhdaa
open Go.RowKit
attribute [local go_sem] lba_get
theorem drop_succ_of {α : Type} {l : List α} {k : Nat} (h : k < l.length) : l.drop k = l[k] :: l.drop (k + 1) := List.drop_eq_getElem_cons h
set_option maxRecDepth 100000 in
set_option maxHeartbeats 8000000 in
theorem limits_law (s : List UInt8) (lim : Int) (w : World) :
    Calls Try.prog 8 #[.string ⟨s.toArray⟩, .int .i64 lim] w fun e w' => e = .returned (.bool true) ∧ Below w.heap.size w w' := by
  by_cases hs : 300 < s.length
  · have d1 : decide ((300 : Int) < (s.length : Int)) = true := decide_eq_true (by omega)
    have hB := Below.refl w.heap.size w
    clear hs
    go_enter Try.func8, Try.ntmps8
    go_wp2_with fail
    refine (lawake_any _).mono ?_
    rintro e w1 ⟨rfl, hb⟩
    have hB := hB.trans (hb.mono hB.size)
    clear hb
    go_wp2_with fail
    go_ret
    exact ⟨rfl, hB⟩
  have d1 : decide ((300 : Int) < (s.length : Int)) = false := decide_eq_false (by omega)
  have hmr := modI_range lim 100 (by decide)
  obtain ⟨m, hm⟩ : ∃ m, modI lim 100 = m := ⟨_, rfl⟩
  rw [hm] at hmr
  have HM := Lib.hid hm
  obtain ⟨N, hN⟩ : ∃ N : Nat, 1 + m = (N : Int) := ⟨(1 + m).toNat, by omega⟩
  have hw1 : IntKind.i64.wrap (1 + m) = (N : Int) := by rw [lwrap64 (by omega) (by omega), hN]
  have hN1 : 1 ≤ N := by omega
  have hN2 : N ≤ 100 := by omega
  obtain ⟨R, hR⟩ : ∃ R, mxL 0 0 s = R := ⟨_, rfl⟩
  have H0 : Hid (mxL 0 0 (s.drop 0) = R) := hR
  have hlong := feed_long N s [] 0 (Nat.zero_le _) (Nat.zero_le _)
  rw [show ([] : List UInt8).length = 0 from rfl, hR] at hlong
  have hRl := mxL_le s 0 0
  rw [hR] at hRl
  obtain ⟨⟨⟨fn, ft, fg⟩, F⟩, hF⟩ : ∃ z, feedL (N : Int) [] s = z := ⟨_, rfl⟩
  have hFl := feed_len (N : Int) s []
  have hleft := feed_left (N : Int) (by omega) s [] (by simp) rfl
  rw [hF] at hlong hFl hleft
  dsimp only at hlong hFl hleft
  have hft := hleft.2.1
  dsimp only at hft
  have hS : splR s (N : Int) = if fg = true then (([], []), 4) else ((F, ft), 0) := by unfold splR; rw [if_neg (by omega), hF]
  have HS := Lib.hid hS
  have HF := Lib.hid hF
  have HLG := Lib.hid hlong
  clear hm hmr hN hR hlong hF hleft hS
  go_enter Try.func8, Try.ntmps8
  go_wp2_with fail
  refine (mod_any lim 100 (by decide) (by decide) _).mono ?_
  rintro e w' ⟨rfl, rfl⟩
  rw [HM.out]
  go_wp2_with fail
  go_loopw [6, 7, 8] (fun o a i wr => ∃ (k g b : Nat), k ≤ s.length ∧ g ≤ k ∧ b ≤ k ∧ o = .int .i64 g ∧ a = .int .i64 b ∧ i = .int .i64 k ∧ Hid (mxL g b (s.drop k) = R) ∧ wr = w) (fun _ _ i _ => s.length - (intOf i).toNat)
  case atStart => exact ⟨0, 0, 0, Nat.zero_le _, Nat.le_refl _, Nat.le_refl _, rfl, rfl, rfl, H0, rfl⟩
  case round =>
    clear H0
    obtain ⟨k, g, b, hk, hg, hb, rfl, rfl, rfl, hp, rfl⟩ := hrel
    by_cases hlt : k < s.length
    · have h1 : decide ((k : Int) < (s.length : Int)) = true := decide_eq_true (by omega)
      have hb2 : (k : Int) < (s.length : Int) := by omega
      have hat := mxL_at (m := g) (a := b) hlt
      obtain ⟨y, hy⟩ : ∃ y, (s[k]).toNat = y := ⟨_, rfl⟩
      rw [hy] at hat
      by_cases h10 : y = 10
      · have q1 : ((y : Int) == 10) = true := by rw [beq_iff_eq]; omega
        have hnext : Hid (mxL g 0 (s.drop (k + 1)) = R) := Lib.hid (by rw [← hp.out, hat, if_pos h10])
        clear hat h10 hp
        go_wp2_with fail
        go_roundw
        case rel => exact ⟨k + 1, g, 0, by omega, by omega, by omega, rfl, rfl, by go_num, hnext, trivial⟩
        case measure => simp [intOf]; omega
      · have q1 : ((y : Int) == 10) = false := by rw [beq_eq_false_iff_ne]; omega
        have hnext : Hid (mxL (max g (b + 1)) (b + 1) (s.drop (k + 1)) = R) := Lib.hid (by rw [← hp.out, hat, if_neg h10])
        have hw2 : IntKind.i64.wrap ((b : Int) + 1) = (b : Int) + 1 := lwrap64 (by omega) (by omega)
        obtain ⟨M, hM⟩ : ∃ M, max g (b + 1) = M := ⟨_, rfl⟩
        have hmx : (if (g : Int) < (b : Int) + 1 then (b : Int) + 1 else (g : Int)) = (M : Int) := by
          split <;> omega
        have hmx2 : max (g : Int) ((b : Int) + 1) = (M : Int) := by omega
        rw [hM] at hnext
        have hMk : M ≤ k + 1 := by omega
        clear hat h10 hp hM
        go_wp2_with fail
        go_roundw
        case rel => exact ⟨k + 1, M, b + 1, by omega, hMk, by omega, rfl, by go_num, by go_num, hnext, trivial⟩
        case measure => simp [intOf]; omega
    · have h1 : decide ((k : Int) < (s.length : Int)) = false := decide_eq_false (by omega)
      obtain rfl : g = R := by rw [← hp.out, List.drop_eq_nil_of_le (by omega)]; rfl
      clear hp
      go_wp2_with fail
      refine (lsplit_any s (N : Int) (by omega) _).mono ?_
      rintro e w3 ⟨⟨v, rfl, hv⟩, hB⟩
      rw [HS.out] at hv ⊢
      by_cases hbig : N < g
      · have d2 : decide ((N : Int) < (g : Int)) = true := decide_eq_true (by omega)
        have d2n : decide (N < g) = true := decide_eq_true hbig
        have hfg : fg = true := by rw [HLG.out]; exact decide_eq_true hbig
        rw [if_pos hfg] at hv ⊢
        dsimp only at hv ⊢
        obtain ⟨pv, cv, rfl, -⟩ := id hv
        clear hv hbig hfg
        go_wp2_with fail
        refine (lawake_any _).mono ?_
        rintro e w9 ⟨rfl, hb⟩
        have hB := hB.trans (hb.mono hB.size)
        clear hb
        go_wp2_with fail
        go_ret
        exact ⟨rfl, hB⟩
      · have d2 : decide ((N : Int) < (g : Int)) = false := decide_eq_false (by omega)
        have d2n : decide (N < g) = false := decide_eq_false hbig
        have hfg : fg = false := by rw [HLG.out]; exact decide_eq_false hbig
        subst hfg
        rw [if_neg (by simp)] at hv ⊢
        dsimp only at hv ⊢
        obtain ⟨pv, cv, rfl, -, hin⟩ := hv
        have HIN := Lib.hid hin
        have hstart : Hid (feedL (N : Int) [] s = (⟨fn, ft, false⟩, F.drop 0)) := HF.out
        rw [show ((0 : Nat) : Int) = 0 from rfl]
        clear hin hbig
        go_wp2_with fail
        go_loopw [12, 13] (fun o i wr => ∃ (j : Nat) (B r : List UInt8), j ≤ F.length ∧ B.length ≤ s.length ∧ i = .int .i64 j ∧ o = .string ⟨B.toArray⟩ ∧ Hid (B ++ r = s) ∧ Hid (feedL (N : Int) [] r = (⟨fn, ft, false⟩, F.drop j)) ∧ wr = w3) (fun _ i _ => F.length - (intOf i).toNat)
        case atStart => exact ⟨0, [], s, Nat.zero_le _, Nat.zero_le _, rfl, rfl, Lib.hid rfl, hstart, rfl⟩
        case round =>
          clear hstart
          obtain ⟨j, B, r, hj, hBl, rfl, rfl, hBr, hfd, rfl⟩ := hrel
          by_cases hjlt : j < F.length
          · have h2 : decide ((j : Int) < (F.length : Int)) = true := decide_eq_true (by omega)
            have hb3 : (j : Int) < (F.length : Int) := by omega
            obtain ⟨bb, off, rfl, hbl, x0, x1⟩ := ln_cell HIN.out (Below.refl _ _) hjlt
            have hd := hfd.out
            rw [drop_succ_of hjlt] at hd
            obtain ⟨u, r', e1, e2, e3, e4⟩ := feed_first (N : Int) r [] _ _ (by simp) (congrArg Prod.snd hd)
            rw [hd] at e4
            dsimp only at e4
            rw [List.nil_append] at e3
            obtain ⟨⟨tt, gd⟩, hx⟩ : ∃ x, F[j] = x := ⟨_, rfl⟩
            rw [hx] at x0 x1 e3
            dsimp only at x0 x1
            have hle := line_end u
            have hsh := line_short u
            obtain ⟨y, hy1, hy2⟩ := behind_line u r'
            have hbad := fun h => line_bad (u := u) h
            rw [← e3] at hle hsh hy1 hbad
            dsimp only at hle hsh hy1 hbad
            have hul : u.length ≤ N := by simp at e2; omega
            have hsl : s.length = B.length + u.length + 1 + r'.length := by rw [← hBr.out, e1]; simp; omega
            obtain ⟨q, hq⟩ : ∃ q, B.length + tt.length = q := ⟨_, rfl⟩
            have hqlt : q < s.length := by omega
            have hsq : s[q] = y := by
              have : s[q]? = some y := by
                rw [← hBr.out, e1, ← hq, List.getElem?_append_right (by omega), Nat.add_sub_cancel_left]
                exact hy1
              rw [List.getElem?_eq_getElem hqlt] at this
              exact Option.some.inj this
            have hw2 : IntKind.i64.wrap ((B.length : Int) + (tt.length : Int)) = (q : Int) := by rw [lwrap64 (by omega) (by omega)]; omega
            have d3 : decide ((N : Int) < (tt.length : Int)) = false := decide_eq_false (by omega)
            have d3n : decide (N < tt.length) = false := decide_eq_false (by omega)
            have d4 : decide ((q : Int) < (s.length : Int)) = true := decide_eq_true (by omega)
            have hb4 : (q : Int) < (s.length : Int) := by omega
            obtain ⟨z, hz⟩ : ∃ z, y.toNat = z := ⟨_, rfl⟩
            have hsz : (s[q]).toNat = z := by rw [hsq, hz]
            rw [hz] at hy2
            have hnf : Hid (feedL (N : Int) [] r' = (⟨fn, ft, false⟩, F.drop (j + 1))) := Lib.hid e4
            have hnb : Hid ((B ++ (u ++ [10])) ++ r' = s) := Lib.hid (by rw [← hBr.out, e1]; simp)
            have hqs := Lib.hid hq
            have s1 : ∀ w, (Op.stringOp .add ⟨B.toArray⟩ ⟨tt.toArray⟩).run Try.prog w = .ok (.string ⟨(B ++ tt).toArray⟩) w := fun w => lstr_add B tt (by omega)
            have hsl2 : B.length + u.length + 1 ≤ s.length := by omega
            have hsh2 : tt.length ≤ 300 := by omega
            obtain ⟨BT, hBT⟩ : ∃ x, B ++ tt = x := ⟨_, rfl⟩
            have hBTl : BT.length ≤ 1000 := by rw [← hBT, List.length_append]; omega
            by_cases h13 : z = 13
            · have q1 : ((z : Int) == 13) = true := by rw [beq_iff_eq]; omega
              have hend : endL u = [13, 10] := by unfold endL; rw [if_pos (hy2.1 h13)]
              rw [hend] at hle
              obtain ⟨B2, hB2⟩ : ∃ x, B ++ (u ++ [10]) = x := ⟨_, rfl⟩
              have hB2' : BT ++ [13, 10] = B2 := by rw [← hB2, ← hBT, ← hle]; simp
              have s2 : ∀ w, (Op.stringOp .add ⟨BT.toArray⟩ ⟨#[13, 10]⟩).run Try.prog w = .ok (.string ⟨B2.toArray⟩) w := fun w => by rw [← hB2']; exact lstr_add BT [13, 10] (by simp; omega)
              have hB2l : B2.length ≤ s.length := by rw [← hB2]; simp; omega
              rw [hB2] at hnb
              rw [hBT] at s1
              clear hd e1 e2 e3 e4 hx hle hsh hy1 hy2 hbad hsq hz hend hB2 hB2' hBT hq hsl hsl2 h13 hfd hBr
              cases gd
              · go_wp2_with fail
                go_roundw
                case rel => exact ⟨j + 1, B2, r', by omega, hB2l, by go_num, rfl, hnb, hnf, trivial⟩
                case measure => simp [intOf]; omega
              · go_wp2_with fail
                go_roundw
                case rel => exact ⟨j + 1, B2, r', by omega, hB2l, by go_num, rfl, hnb, hnf, trivial⟩
                case measure => simp [intOf]; omega
            · have q1 : ((z : Int) == 13) = false := by rw [beq_eq_false_iff_ne]; omega
              have hnl : u.getLast? ≠ some 13 := fun h => h13 (hy2.2 h)
              have hgd : gd = false := hbad hnl
              have hend : endL u = [10] := by unfold endL; rw [if_neg hnl]
              rw [hend] at hle
              obtain ⟨B2, hB2⟩ : ∃ x, B ++ (u ++ [10]) = x := ⟨_, rfl⟩
              have hB2' : BT ++ [10] = B2 := by rw [← hB2, ← hBT, ← hle]; simp
              have s2 : ∀ w, (Op.stringOp .add ⟨BT.toArray⟩ ⟨#[10]⟩).run Try.prog w = .ok (.string ⟨B2.toArray⟩) w := fun w => by rw [← hB2']; exact lstr_add BT [10] (by simp; omega)
              have hB2l : B2.length ≤ s.length := by rw [← hB2]; simp; omega
              rw [hB2] at hnb
              rw [hBT] at s1
              subst hgd
              clear hd e1 e2 e3 e4 hx hle hsh hy1 hy2 hbad hsq hz hend hB2 hB2' hBT hq hsl hsl2 h13 hnl hfd hBr
              go_wp2_with fail
              go_roundw
              case rel => exact ⟨j + 1, B2, r', by omega, hB2l, by go_num, rfl, hnb, hnf, trivial⟩
              case measure => simp [intOf]; omega
          · have h2 : decide ((j : Int) < (F.length : Int)) = false := decide_eq_false (by omega)
            have hd := hfd.out
            rw [List.drop_eq_nil_of_le (by omega)] at hd
            have hl := feed_last (N : Int) r [] (congrArg Prod.snd hd) (by rw [hd])
            rw [hd, List.nil_append] at hl
            dsimp only at hl
            subst hl
            have hbs := hBr.out
            have s1 : ∀ w, (Op.stringOp .add ⟨B.toArray⟩ ⟨ft.toArray⟩).run Try.prog w = .ok (.string ⟨s.toArray⟩) w := fun w => by rw [← hbs]; exact lstr_add B ft (by omega)
            clear hd hbs hfd hBr
            go_wp2_with fail
            refine (lawake_any _).mono ?_
            rintro e w9 ⟨rfl, hb⟩
            have hB := hB.trans (hb.mono hB.size)
            clear hb
            go_wp2_with fail
            go_ret
            exact ⟨rfl, hB⟩
end Go.Proofs.Ytfagjhadfonhdaa
