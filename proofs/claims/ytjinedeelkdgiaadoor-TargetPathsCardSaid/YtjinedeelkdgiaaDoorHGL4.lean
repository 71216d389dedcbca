/-
  The law TargetPaths: limits, and escapes of bytes that belong to none.
-/
import Derived.Test.YtjinedeelkdgiaaDoorHL0
import Derived.Test.YtjinedeelkdgiaaDoorHGPure4
import Derived.Test.YtjinedeelkdgiaaDoorHKMod
namespace Go.Proofs.YtjinedeelkdgiaaDoor
open Go.RowKit
attribute [local go_sem] ba_get
set_option maxHeartbeats 2000000 in
theorem at_any (p : Option Addr) (n c : Nat) (f : Nat → Int) (k : Nat) (w : World) (hC : CellsIn w p (n * 1) (intC f)) :
    Calls Tryd.prog 27 #[.slice p n c, .int .i64 (k : Int)] w fun e w' => (∃ v : Int, e = .returned (.int .i64 v)) ∧ w = w' := by
  have d0 : decide ((k : Int) < 0) = false := decide_eq_false (by omega)
  by_cases hlt : k < n
  · have d1 : decide ((n : Int) ≤ (k : Int)) = false := decide_eq_false (by omega)
    have d1n : decide (n ≤ k) = false := decide_eq_false (by omega)
    have hb2 : (k : Int) < (n : Int) := by omega
    obtain ⟨b, off, rfl, hbl, hcell⟩ := hC k (by omega)
    unfold intC at hcell
    obtain ⟨x, hx⟩ : ∃ x, f k = x := ⟨_, rfl⟩
    rw [hx] at hcell
    clear hx hC
    go_enter Tryd.func27, Tryd.ntmps27
    go_wp2_with fail
    go_ret
    exact ⟨⟨x, rfl⟩, rfl⟩
  · have d1 : decide ((n : Int) ≤ (k : Int)) = true := decide_eq_true (by omega)
    have d1n : decide (n ≤ k) = true := decide_eq_true (by omega)
    clear hC
    go_enter Tryd.func27, Tryd.ntmps27
    go_wp2_with fail
    go_ret
    exact ⟨⟨0, rfl⟩, rfl⟩
theorem cut_one {l : List UInt8} {k : Nat} (hk : k < l.length) : (ByteArray.mk l.toArray).extract k (k + 1) = ⟨[l[k]].toArray⟩ := by
  rw [ba_mid]
  congr 2
  rw [List.drop_take, show k + 1 - k = 1 by omega, List.drop_eq_getElem_cons hk]
  rfl
theorem cut_three (l : List UInt8) (k : Nat) : (ByteArray.mk l.toArray).extract k (k + 3) = ⟨((l.drop k).take 3).toArray⟩ := by
  rw [ba_mid]
  congr 2
  rw [List.drop_take, show k + 3 - k = 3 by omega]
set_option maxRecDepth 100000 in
set_option maxHeartbeats 16000000 in
theorem paths_any (s : List UInt8) (lim more : Int) (p : Option Addr) (n c : Nat) (f : Nat → Int) (w : World) (hT : TT w) (hC : CellsIn w p (n * 1) (intC f)) :
    Calls Tryd.prog 7 #[.string ⟨s.toArray⟩, .int .i64 lim, .int .i64 more, .slice p n c] w fun e w' => e = .returned (.bool true) ∧ Below w.heap.size w w' := by
  have HK := Lib.hid (known_any w hT)
  by_cases hl : 200 < s.length
  · have a1 : decide ((200 : Int) < (s.length : Int)) = true := decide_eq_true (by omega)
    clear hl hC
    go_enter Tryd.func7, Tryd.ntmps7
    go_wp2_with fail
    refine HK.out.mono ?_
    rintro e w1 ⟨rfl, hb1⟩
    go_wp2_with fail
    go_ret
    exact ⟨rfl, hb1⟩
  have a1 : decide ((200 : Int) < (s.length : Int)) = false := decide_eq_false (by omega)
  have r1 := modI_range lim 128 (by decide)
  obtain ⟨m1, hm1⟩ : ∃ m : Nat, modI lim 128 = (m : Int) := ⟨(modI lim 128).toNat, by omega⟩
  have r2 := modI_range more 128 (by decide)
  obtain ⟨m2, hm2⟩ : ∃ m : Nat, modI more 128 = (m : Int) := ⟨(modI more 128).toNat, by omega⟩
  have HM1 : Hid (∀ W, Calls Tryd.prog 26 #[.int .i64 lim, .int .i64 128] W fun e w' => e = .returned (.int .i64 (m1 : Int)) ∧ W = w') := Lib.hid fun W => by
    have h := mod_any lim 128 (by decide) (by decide) W
    rw [hm1] at h
    exact h
  have HM2 : Hid (∀ W, Calls Tryd.prog 26 #[.int .i64 more, .int .i64 128] W fun e w' => e = .returned (.int .i64 (m2 : Int)) ∧ W = w') := Lib.hid fun W => by
    have h := mod_any more 128 (by decide) (by decide) W
    rw [hm2] at h
    exact h
  obtain ⟨N, hN⟩ : ∃ N : Nat, 1 + m1 = N := ⟨_, rfl⟩
  have w1 : IntKind.i64.wrap (1 + (m1 : Int)) = (N : Int) := (IntWalk.i64_in _ (by omega)).trans (by omega)
  obtain ⟨M, hM⟩ : ∃ M : Nat, N + m2 = M := ⟨_, rfl⟩
  have w2 : IntKind.i64.wrap ((N : Int) + (m2 : Int)) = (M : Int) := (IntWalk.i64_in _ (by omega)).trans (by omega)
  obtain ⟨G, hG⟩ : ∃ G : Nat, min 128 M = G := ⟨_, rfl⟩
  have w3 : min (128 : Int) (M : Int) = (G : Int) := by omega
  have w4 : (if (M : Int) < 128 then (M : Int) else 128) = (G : Int) := by split <;> omega
  have w5 : (if (128 : Int) ≤ (M : Int) then (128 : Int) else (M : Int)) = (G : Int) := by split <;> omega
  have hN1 : 1 ≤ N ∧ N ≤ 128 := by omega
  have hGN : N ≤ G ∧ G ≤ 128 := by omega
  clear hN hM hG r1 r2 hm1 hm2
  have HP := Lib.hid fun W (h : TT W) => parse_any s (by omega) (N : Int) W h.v
  cases hr : rdR s (N : Int) with
  | inl e =>
    have he := rd_stat hr
    obtain ⟨e, st⟩ := e
    rw [hr] at HP
    have HV : Hid (parseW (rdP (.inl (e, st))) = .tuple #[.string ⟨#[]⟩, .string ⟨#[]⟩, .int .i64 (st : Int)]) := Lib.hid rfl
    rw [HV.out] at HP
    have e2 : ((st : Int) != 200) = true := by rw [bne_iff_ne]; dsimp only at he; omega
    clear he hr hC hl hN1 hGN
    go_enter Tryd.func7, Tryd.ntmps7
    go_wp2_with fail
    refine HK.out.mono ?_
    rintro r1 W1 ⟨rfl, hB1⟩
    go_wp2_with fail
    refine (HM1.out _).mono ?_
    rintro r2 W2 ⟨rfl, rfl⟩
    go_wp2_with fail
    refine (HM2.out _).mono ?_
    rintro r3 W3 ⟨rfl, rfl⟩
    go_wp2_with fail
    refine (HP.out _ (hT.below hB1)).mono ?_
    rintro r4 W4 ⟨rfl, hb4⟩
    go_wp2_with fail
    go_ret
    exact ⟨rfl, hB1.trans (hb4.mono hB1.size)⟩
  | inr r =>
    have hmore := rd_more hr (show (N : Int) ≤ (G : Int) by omega) (by omega)
    have hpne := rd_path hr
    obtain ⟨-, -, -, htg, ⟨t, hd, -, -⟩, -, hpl, -⟩ := rd_good hr
    have hdone := fun (other : List UInt8) (h : RW (rawL s) t other (rawL s).length) => h.done hr hd (by omega)
    obtain ⟨P, Q⟩ := r
    dsimp only at hpne hpl
    rw [hr] at HP
    have HV : Hid (parseW (rdP (.inr (P, Q))) = .tuple #[.string ⟨P.toArray⟩, .string ⟨Q.toArray⟩, .int .i64 200]) := Lib.hid rfl
    rw [HV.out] at HP
    have hpb : pB (rdP (.inr (P, Q))) P Q = true := by
      show ((P == P && Q == Q) && (((200 : Nat) : Int) == 200)) = true
      simp
    have HQ : Hid (∀ W, TT W → Calls Tryd.prog 23 #[.string ⟨s.toArray⟩, .int .i64 (G : Int), .string ⟨P.toArray⟩, .string ⟨Q.toArray⟩] W fun e w' => e = .returned (.bool true) ∧ Below W.heap.size W w') := Lib.hid fun W h => by
      have k := parses_any s P Q (by omega) (G : Int) W h
      rw [hmore, hpb] at k
      exact k
    have hsp : splP (splR s) = (rawL s, qL s, 0) := by unfold splR; rw [if_neg (by omega), if_pos htg]; rfl
    have HS : Hid (∀ W, TT W → Calls Tryd.prog 9 #[.string ⟨s.toArray⟩] W fun e w' => e = .returned (.tuple #[.string ⟨(rawL s).toArray⟩, .string ⟨(qL s).toArray⟩, .int .i64 0]) ∧ Below W.heap.size W w') := Lib.hid fun W h => by
      have k := split_any s (by omega) W h.v
      rw [hsp] at k
      exact k
    have hraw : ∀ x ∈ rawL s, charS.has x.toNat = true ∧ x ≠ 63 := fun x hx => by
      have h2 := (cut_parts s).2.2.1 x hx
      refine ⟨?_, h2.2⟩
      unfold tgtB charB at htg
      have h4 := (Bool.and_eq_true_iff.1 htg).2
      rw [List.all_eq_true] at h4
      exact h4 x h2.1
    have hrp : pathB (rawL s) = true := raw_path (by unfold tgtB at htg; exact (Bool.and_eq_true_iff.1 htg).1)
    have hrl := (cut_len s).1
    have hst := RW.start hd
    have f1 := ba_cutr s (rawL s).length
    have HO : Hid (∀ other, RW (rawL s) t other (rawL s).length → ∀ W, TT W → Calls Tryd.prog 23 #[.string ⟨(other ++ s.drop (rawL s).length).toArray⟩, .int .i64 (N : Int), .string ⟨P.toArray⟩, .string ⟨Q.toArray⟩] W fun e w' => e = .returned (.bool true) ∧ Below W.heap.size W w') := Lib.hid fun other ho W h => by
      have hol := ho.len
      have k := parses_any (other ++ s.drop (rawL s).length) P Q (by rw [List.length_append, List.length_drop]; omega) (N : Int) W h
      rw [hdone other ho, hpb] at k
      exact k
    have p1 : decide ((N : Int) < (P.length : Int)) = false := decide_eq_false (by omega)
    have p1n : decide (N < P.length) = false := decide_eq_false (by omega)
    have p2 : (P == []) = false := by simpa using hpne
    have p3 : P.isEmpty = false := by simpa using hpne
    obtain ⟨raw, hrw⟩ : ∃ raw, rawL s = raw := ⟨_, rfl⟩
    obtain ⟨qq, hqq⟩ : ∃ qq, qL s = qq := ⟨_, rfl⟩
    rw [hrw] at hraw hrp hrl hst HS HO f1
    rw [hqq] at HS
    obtain ⟨rest, hrest⟩ : ∃ rest, s.drop raw.length = rest := ⟨_, rfl⟩
    have hrestl : rest.length ≤ 200 := by rw [← hrest, List.length_drop]; omega
    rw [hrest] at HO f1
    have HRAW := Lib.hid hraw
    have HRP := Lib.hid hrp
    have HST := Lib.hid hst
    have p4 : decide ((s.length : Int) < (raw.length : Int)) = false := decide_eq_false (by omega)
    have p4n : decide (s.length < raw.length) = false := decide_eq_false (by omega)
    have hb3 : (raw.length : Int) ≤ (s.length : Int) := by omega
    have hrl200 : raw.length ≤ 200 := by omega
    clear hr hmore hpne htg hd hdone hpl hpb hsp hraw hrp hst hrw hqq hrest HV hGN hN1
    go_enter Tryd.func7, Tryd.ntmps7
    go_wp2_with fail
    refine HK.out.mono ?_
    rintro r1 W1 ⟨rfl, hB1⟩
    clear HK
    go_wp2_with fail
    refine (HM1.out _).mono ?_
    rintro r2 W2 ⟨rfl, rfl⟩
    clear HM1
    go_wp2_with fail
    refine (HM2.out _).mono ?_
    rintro r3 W3 ⟨rfl, rfl⟩
    clear HM2
    go_wp2_with fail
    refine (HP.out _ (hT.below hB1)).mono ?_
    rintro r4 W4 ⟨rfl, hb4⟩
    have hB4 := hB1.trans (hb4.mono hB1.size)
    clear HP hb4 hB1
    go_wp2_with fail
    refine (HQ.out _ (hT.below hB4)).mono ?_
    rintro r5 W5 ⟨rfl, hb5⟩
    have hB5 := hB4.trans (hb5.mono hB4.size)
    clear HQ hb5 hB4
    go_wp2_with fail
    refine (HS.out _ (hT.below hB5)).mono ?_
    rintro r6 W6 ⟨rfl, hb6⟩
    have hB6 := hB5.trans (hb6.mono hB5.size)
    clear HS hb6 hB5
    go_wp2_with fail
    go_loopw [17, 18, 85, 106] (fun oo i _ _ wr => ∃ (k : Nat) (other : List UInt8), k ≤ raw.length ∧ i = .int .i64 (k : Int) ∧ oo = .string ⟨other.toArray⟩ ∧ Hid (RW raw t other k) ∧ Below w.heap.size w wr) (fun _ i _ _ _ => raw.length - (intOf i).toNat)
    case atStart => exact ⟨0, [], Nat.zero_le _, rfl, rfl, HST, hB6⟩
    case round =>
    clear HST hB6
    obtain ⟨k, other, hk, rfl, rfl, hW, hB⟩ := hrel
    have hol := hW.out.len
    by_cases hlt : k < raw.length
    · have d1 : decide ((k : Int) < (raw.length : Int)) = true := decide_eq_true (by omega)
      have d1n : decide (k < raw.length) = true := decide_eq_true hlt
      have hb2 : (k : Int) < (raw.length : Int) := by omega
      have g1 : IntKind.i64.wrap ((k : Int) + 1) = ((k + 1 : Nat) : Int) := (IntWalk.i64_in _ (by omega)).trans (by omega)
      have g2 : IntKind.i64.wrap ((k : Int) + 2) = ((k + 2 : Nat) : Int) := (IntWalk.i64_in _ (by omega)).trans (by omega)
      have g3 : IntKind.i64.wrap ((k : Int) + 3) = ((k + 3 : Nat) : Int) := (IntWalk.i64_in _ (by omega)).trans (by omega)
      by_cases h37 : raw[k] = 37
      · obtain ⟨hk2, hN⟩ := hW.out.esc HRAW.out HRP.out hlt h37
        have hx : (raw[k]).toNat = 37 := by rw [h37]; rfl
        have d2 : decide (((k + 2 : Nat) : Int) < (raw.length : Int)) = true := decide_eq_true (by omega)
        have d2n : decide (k + 2 < raw.length) = true := decide_eq_true hk2
        have g4 : IntKind.i64.wrap (((k + 2 : Nat) : Int) + 1) = ((k + 3 : Nat) : Int) := (IntWalk.i64_in _ (by omega)).trans (by omega)
        have hc3 := cut_three raw k
        have hb4 : ((k + 3 : Nat) : Int) ≤ (raw.length : Int) := by omega
        have hb5 : (k : Int) ≤ ((k + 3 : Nat) : Int) := by omega
        obtain ⟨y, hy⟩ : ∃ y, (raw.drop k).take 3 = y := ⟨_, rfl⟩
        have hyl : y.length ≤ 3 := by rw [← hy, List.length_take]; omega
        rw [hy] at hc3 hN
        have x1 : ∀ W, (Op.stringOp .add ⟨other.toArray⟩ ⟨y.toArray⟩).run Tryd.prog W = .ok (.string ⟨(other ++ y).toArray⟩) W := fun W => str_add other y (by unfold Small; omega)
        obtain ⟨o2, ho2⟩ : ∃ o2, other ++ y = o2 := ⟨_, rfl⟩
        rw [ho2] at x1 hN
        have HN := Lib.hid hN
        clear ho2 hN hy hW hol h37 HO
        go_wp2_with fail
        go_roundw
        case rel => exact ⟨k + 3, o2, by omega, rfl, rfl, HN, hB⟩
        case measure => simp [intOf]; omega
      · have hc1 := cut_one hlt
        have hN1 := hW.out.plain HRAW.out HRP.out hlt h37
        have hN2 := fun h0 => hW.out.hex h0 hlt h37
        obtain ⟨x, hx⟩ : ∃ x, raw[k] = x := ⟨_, rfl⟩
        rw [hx] at hc1 hN1 hN2 h37
        obtain ⟨b, hbx⟩ : ∃ b, (raw[k]).toNat = b := ⟨_, rfl⟩
        have e1 : ((b : Int) == 37) = false := by
          rw [beq_eq_false_iff_ne]
          intro e
          exact h37 (UInt8.toNat_inj.1 (by rw [← hx, hbx]; show b = 37; omega))
        have e1n : (b == 37) = false := by
          rw [beq_eq_false_iff_ne]
          intro e
          exact h37 (UInt8.toNat_inj.1 (by rw [← hx, hbx]; show b = 37; omega))
        have hb4 : ((k + 1 : Nat) : Int) ≤ (raw.length : Int) := by omega
        have hb5 : (k : Int) ≤ ((k + 1 : Nat) : Int) := by omega
        have x1 : ∀ W, (Op.stringOp .add ⟨other.toArray⟩ ⟨[x].toArray⟩).run Tryd.prog W = .ok (.string ⟨(other ++ [x]).toArray⟩) W := fun W => str_add other [x] (by unfold Small; simp; omega)
        have hel := enc1_length .empty x
        have x2 : ∀ W, (Op.stringOp .add ⟨other.toArray⟩ ⟨(enc1 .empty x).toArray⟩).run Tryd.prog W = .ok (.string ⟨(other ++ enc1 .empty x).toArray⟩) W := fun W => str_add other (enc1 .empty x) (by unfold Small; omega)
        have HE : Hid (∀ W, Calls Tryd.prog 28 #[.string ⟨[x].toArray⟩, .agg #[.int .u64 0, .int .u64 0, .int .u64 0, .int .u64 0]] W fun e w' => e = .returned (.string ⟨(enc1 .empty x).toArray⟩) ∧ Below W.heap.size W w') := Lib.hid fun W => by
          have h := encode_any [x] (by simp) 0#64 0#64 0#64 0#64 W
          have e : encL ⟨0#64, 0#64, 0#64, 0#64⟩ [x] = enc1 .empty x := by unfold encL; simp; rfl
          rw [e] at h
          exact h
        obtain ⟨z, hz⟩ : ∃ z, enc1 .empty x = z := ⟨_, rfl⟩
        rw [hz] at HE x2 hN2
        obtain ⟨o1, ho1⟩ : ∃ o1, other ++ [x] = o1 := ⟨_, rfl⟩
        rw [ho1] at x1 hN1
        obtain ⟨o2, ho2⟩ : ∃ o2, other ++ z = o2 := ⟨_, rfl⟩
        rw [ho2] at x2 hN2
        have HN1 := Lib.hid hN1
        by_cases h0 : 0 < k
        · have HN2 := Lib.hid (hN2 h0)
          have d3 : decide ((0 : Int) < (k : Int)) = true := decide_eq_true (by omega)
          have d3n : decide (0 < k) = true := decide_eq_true h0
          have HAT := Lib.hid fun W hc => at_any p n c f k W hc
          have HC2 := Lib.hid (hC.below hB (Nat.le_refl _))
          clear ho1 ho2 hN1 hN2 hz hel h37 hx hW hol h0
          go_wp2_with fail
          refine (HAT.out _ HC2.out).mono ?_
          rintro r1 W1 ⟨⟨v, rfl⟩, rfl⟩
          go_wp2_with fail
          refine (mod_any v 3 (by decide) (by decide) _).mono ?_
          rintro r2 W2 ⟨rfl, rfl⟩
          obtain ⟨m, hm⟩ : ∃ m, modI v 3 = m := ⟨_, rfl⟩
          rw [hm]
          clear hm HAT HC2
          obtain ⟨q, hq⟩ : ∃ q, (m == 1) = q := ⟨_, rfl⟩
          cases q
          · go_wp2_with fail
            go_roundw
            case rel => exact ⟨k + 1, o1, by omega, rfl, rfl, HN1, hB⟩
            case measure => simp [intOf]; omega
          · go_wp2_with fail
            refine (HE.out _).mono ?_
            rintro r3 W3 ⟨rfl, hb3'⟩
            go_wp2_with fail
            go_roundw
            case rel => exact ⟨k + 1, o2, by omega, rfl, rfl, HN2, hB.trans (hb3'.mono hB.size)⟩
            case measure => simp [intOf]; omega
        · have d3 : decide ((0 : Int) < (k : Int)) = false := decide_eq_false (by omega)
          have d3n : decide (0 < k) = false := decide_eq_false h0
          clear ho1 ho2 hN1 hN2 hz hel h37 hx hW hol HE x2 h0
          go_wp2_with fail
          go_roundw
          case rel => exact ⟨k + 1, o1, by omega, rfl, rfl, HN1, hB⟩
          case measure => simp [intOf]; omega
    · obtain rfl : k = raw.length := by omega
      have d1 : decide ((raw.length : Int) < (raw.length : Int)) = false := decide_eq_false (by omega)
      have d1n : decide (raw.length < raw.length) = false := decide_eq_false (by omega)
      have HO1 := Lib.hid (HO.out other hW.out)
      have x1 : ∀ W, (Op.stringOp .add ⟨other.toArray⟩ ⟨rest.toArray⟩).run Tryd.prog W = .ok (.string ⟨(other ++ rest).toArray⟩) W := fun W => str_add other rest (by unfold Small; omega)
      obtain ⟨o1, ho1⟩ : ∃ o1, other ++ rest = o1 := ⟨_, rfl⟩
      rw [ho1] at x1 HO1
      clear ho1 hW hol HO
      go_wp2_with fail
      refine (HO1.out _ (hT.below hB)).mono ?_
      rintro r1 W1 ⟨rfl, hb1⟩
      go_wp2_with fail
      go_ret
      exact ⟨rfl, hB.trans (hb1.mono hB.size)⟩
end Go.Proofs.YtjinedeelkdgiaaDoor
