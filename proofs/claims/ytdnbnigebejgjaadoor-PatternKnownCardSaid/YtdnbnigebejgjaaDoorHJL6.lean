/-
  The law PatternGroups returns true for every text.
-/
import Derived.Test.YtdnbnigebejgjaaDoorHJL5
namespace Go.Proofs.YtdnbnigebejgjaaDoor
open Go.RowKit Go.Shelf
theorem inside_ok {L : List ND} {G : Nat} (hck : chkR L (G : Int) = 0) (v : Value) (bb en : Bool) (a b : Nat) (a0 : 1 ≤ a) (a1 : a ≤ G) (b0 : 1 ≤ b) (b1 : b ≤ G) (W : World) (h : NdsAt W v L) :
    Calls Tryd.prog 14 #[.agg #[v, .bool bb, .bool en, .int .i64 (G : Int)], .int .i64 (a : Int), .int .i64 (b : Int)] W fun e w' => e = .returned (.tuple #[.bool (hdB L (a : Int) (b : Int)), .int .i64 0]) ∧ Below W.heap.size W w' := by
  have k := inside_any L (by have := (chk_zero hck).1; omega) v bb en (G : Int) (a : Int) (b : Int) W h
  have e : insR L (G : Int) (a : Int) (b : Int) = (hdB L (a : Int) (b : Int), 0) := by
    unfold insR
    rw [if_pos hck, if_pos ⟨⟨by omega, by omega⟩, ⟨by omega, by omega⟩, by omega⟩]
  rw [e] at k
  exact k
theorem disjoint_ok {L : List ND} {G : Nat} (hck : chkR L (G : Int) = 0) (v : Value) (bb en : Bool) (a b : Nat) (a0 : 1 ≤ a) (a1 : a ≤ G) (b0 : 1 ≤ b) (b1 : b ≤ G) (W : World) (h : NdsAt W v L) (B : Nat) (hB : CBlk 3 W B [.int .i64 (a : Int), .int .i64 (b : Int)]) :
    Calls Tryd.prog 15 #[.agg #[v, .bool bb, .bool en, .int .i64 (G : Int)], .slice (some ⟨B, 0, none⟩) 2 2] W fun e w' => e = .returned (.tuple #[.bool (!(hdB L (a : Int) (b : Int) || hdB L (b : Int) (a : Int))), .int .i64 0]) ∧ Below W.heap.size W w' := by
  have hG : CellsIn W (some ⟨B, 0, none⟩) 2 (intC fun j => [(a : Int), (b : Int)].getD j 0) := by
    intro j hj
    refine ⟨B, 0, rfl, hB.lt, ?_⟩
    rw [Nat.zero_add]
    match j, hj with
    | 0, _ => exact hB.cell 0 (by simp)
    | 1, _ => exact hB.cell 1 (by simp)
  have k := disjoint_any L (by have := (chk_zero hck).1; omega) v bb en (G : Int) hck (some ⟨B, 0, none⟩) 2 [(a : Int), (b : Int)] (by simp) (by simp) (by omega) W h hG
  rw [dis_two (by omega) (by omega) (by omega) (by omega)] at k
  exact k
set_option maxHeartbeats 8000000 in
set_option maxRecDepth 100000 in
theorem groups_law (s : List UInt8) (W : World) (hTS : TS W) :
    Calls Tryd.prog 6 #[.string ⟨s.toArray⟩] W fun e w' => e = .returned (.bool true) ∧ Below W.heap.size W w' := by
  have HAW := Lib.hid fun w h => awake_any w h
  by_cases hl : 60 < s.length
  · have a1 : decide ((60 : Int) < (s.length : Int)) = true := decide_eq_true (by omega)
    have a2 : decide (60 < s.length) = true := decide_eq_true hl
    clear hl
    go_enter Tryd.func6, Tryd.ntmps6
    go_wp2_with fail
    refine (HAW.out _ hTS).mono ?_
    rintro x w1 ⟨rfl, hb1⟩
    go_wp2_with fail
    go_ret
    exact ⟨rfl, hb1⟩
  have a1 : decide ((60 : Int) < (s.length : Int)) = false := decide_eq_false (by omega)
  have a2 : decide (60 < s.length) = false := decide_eq_false hl
  have HP := Lib.hid fun w h => parse19_any s w h
  by_cases he : (parP s).2.1 = 0
  case neg =>
    clear hl
    have h1 : (parP s).1 = .none := par_f he
    obtain ⟨⟨er, at_⟩, hE⟩ : ∃ x, (parP s).2 = x := ⟨_, rfl⟩
    rw [hE] at he
    rw [h1, hE] at HP
    unfold treeV at HP
    dsimp only [TR.none] at HP he
    have b1 : ((er : Int) != 0) = true := by simp; omega
    have b2 : ((er : Int) == 0) = false := by simp; omega
    have b3 : (er != 0) = true := by simpa using he
    have b4 : (er == 0) = false := by simpa using he
    clear h1 hE he
    go_enter Tryd.func6, Tryd.ntmps6
    go_wp2_with fail
    refine (HP.out _ hTS.2.1).mono ?_
    rintro q w2 ⟨u, rfl, ⟨r, cr, rfl, hcr, hu⟩, hb2⟩
    clear hu
    go_wp2_with fail
    have hB3 : Below W.heap.size W ((w2.alloc (.cells #[.slice r 0 cr, .bool false, .bool false, .int .i64 0] 24)).alloc (.cells #[.int .i64 (er : Int), .int .i64 (at_ : Int)] 38)) := (hb2.alloc hb2.size _).alloc (by have := hb2.size; simp; omega) _
    refine (HAW.out _ (hTS.below hB3)).mono ?_
    rintro x w4 ⟨rfl, hb4⟩
    go_wp2_with fail
    go_ret
    exact ⟨rfl, hB3.trans (hb4.mono hB3.size)⟩
  have hck := par_chk he
  have hup := par_up he (by omega)
  have hfst : ∀ b : Int, 1 ≤ b → b ≤ (parP s).1.g → hdB (upN ++ (parP s).1.L.map sh) 1 (b + 1) = true := fun b h1 h2 => hd_first he h1 h2
  have hG9 : ∃ G : Nat, (parP s).1.g = (G : Int) ∧ G ≤ 9 := by
    obtain ⟨_, _, _, c, _, _, _, h9, e⟩ := par_s he
    exact ⟨gcQ c, by rw [e], h9⟩
  have hE : (parP s).2 = (0, 0) := by
    obtain ⟨_, _, _, _, _, _, _, _, e⟩ := par_s he
    rw [e]
  obtain ⟨⟨L, bb, en, g⟩, hT⟩ : ∃ T, (parP s).1 = T := ⟨_, rfl⟩
  rw [hT] at hck hup hfst hG9
  rw [hT, hE] at HP
  unfold treeV at HP
  dsimp only at HP hck hup hfst hG9
  obtain ⟨G, rfl, hG9⟩ := hG9
  clear hT hE he
  have hL1 := (chk_zero hck).1
  have HCK := Lib.hid hck
  have HUP := Lib.hid hup
  have HF := Lib.hid hfst
  clear hck hup hfst
  go_enter Tryd.func6, Tryd.ntmps6
  go_wp2_with fail
  refine (HP.out _ hTS.2.1).mono ?_
  rintro q w2 ⟨u, rfl, ⟨p, cp, rfl, hcp, hu⟩, hb2⟩
  have HU := Lib.hid hu
  clear hu
  go_wp2_with fail
  have t0 := (CBlk.new 24 w2 [.slice p L.length cp, .bool bb, .bool en, .int .i64 (G : Int)]).alloc (.cells #[.int .i64 0, .int .i64 0] 38)
  have f0 := CBlk.new 38 (w2.alloc (.cells #[.slice p L.length cp, .bool bb, .bool en, .int .i64 (G : Int)] 24)) [.int .i64 0, .int .i64 0]
  rw [World.size_alloc] at f0
  have hb3 : Below w2.heap.size w2 ((w2.alloc (.cells #[.slice p L.length cp, .bool bb, .bool en, .int .i64 (G : Int)] 24)).alloc (.cells #[.int .i64 0, .int .i64 0] 38)) := ((Below.refl _ w2).alloc (Nat.le_refl _) _).alloc (by simp) _
  generalize hX : (w2.alloc (.cells #[.slice p L.length cp, .bool bb, .bool en, .int .i64 (G : Int)] 24)).alloc (.cells #[.int .i64 0, .int .i64 0] 38) = X at t0 f0 hb3 ⊢
  have hB3 := hb2.trans (hb3.mono hb2.size)
  have HUX := Lib.hid (HU.out.below hb3 (Nat.le_refl _))
  obtain ⟨B, hBe⟩ : ∃ B, w2.heap.size = B := ⟨_, rfl⟩
  rw [hBe] at t0 f0
  rw [hBe]
  have HT0 := Lib.hid t0
  have HF0 := Lib.hid f0
  have HB3 := Lib.hid hB3
  clear hX hb2 HU hBe hb3 t0 f0 hB3
  go_loopw [5] (fun i wr => ∃ a : Nat, 1 ≤ a ∧ a ≤ G + 1 ∧ i = .int .i64 a ∧ Hid (Below X.heap.size X wr)) (fun i _ => G + 1 - (intOf i).toNat)
  case atStart => exact ⟨1, by omega, by omega, rfl, Lib.hid (Below.refl _ _)⟩
  case round =>
    obtain ⟨a, ha0, ha1, rfl, hb⟩ := hrel
    have t1 := HT0.out.below hb.out HT0.out.lt
    have c0 := t1.cell 0 (by simp)
    have c1 := t1.cell 1 (by simp)
    have c2 := t1.cell 2 (by simp)
    have c3 := t1.cell 3 (by simp)
    by_cases hlt : a ≤ G
    · have a5 : decide ((a : Int) ≤ (G : Int)) = true := decide_eq_true (by omega)
      have a6 : decide (a ≤ G) = true := decide_eq_true hlt
      have hrf := Lib.hid (hd_refl HCK.out (a := (a : Int)) (by omega) (by omega))
      clear c0 c1 c2
      go_wp2_with fail
      clear c3 t1
      go_loopw [6] (fun i wr => ∃ b : Nat, 1 ≤ b ∧ b ≤ G + 1 ∧ i = .int .i64 b ∧ Hid (Below X.heap.size X wr)) (fun i _ => G + 1 - (intOf i).toNat)
      case atStart => exact ⟨1, by omega, by omega, rfl, hb⟩
      case round =>
        clear hb
        obtain ⟨b, hb0, hb1, rfl, hb⟩ := hrel
        have t1 := HT0.out.below hb.out HT0.out.lt
        have c0 := t1.cell 0 (by simp)
        have c1 := t1.cell 1 (by simp)
        have c2 := t1.cell 2 (by simp)
        have c3 := t1.cell 3 (by simp)
        by_cases hblt : b ≤ G
        · have b5 : decide ((b : Int) ≤ (G : Int)) = true := decide_eq_true (by omega)
          have b6 : decide (b ≤ G) = true := decide_eq_true hblt
          have H1 := Lib.hid fun w h => inside_ok HCK.out (.slice p L.length cp) bb en a b ha0 hlt hb0 hblt w h
          have H2 := Lib.hid fun w h => inside_ok HCK.out (.slice p L.length cp) bb en b a hb0 hblt ha0 hlt w h
          have H3 := Lib.hid fun w h => disjoint_ok HCK.out (.slice p L.length cp) bb en a b ha0 hlt hb0 hblt w h
          have han := hd_anti HCK.out (a := (a : Int)) (b := (b : Int)) (by omega) (by omega) (by omega) (by omega)
          have hle := hd_le HCK.out (a := (a : Int)) (b := (b : Int)) (by omega) (by omega) (by omega) (by omega)
          have htr := Lib.hid fun (c : Nat) (h0 : 1 ≤ c) (h1 : c ≤ G) => hd_trans HCK.out (a := (a : Int)) (b := (b : Int)) (c := (c : Int)) (by omega) (by omega) (by omega) (by omega) (by omega) (by omega)
          obtain ⟨x, hx⟩ : ∃ x, hdB L (a : Int) (b : Int) = x := ⟨_, rfl⟩
          obtain ⟨y, hy⟩ : ∃ x, hdB L (b : Int) (a : Int) = x := ⟨_, rfl⟩
          rw [hx, hy] at H3 han
          rw [hx] at H1 htr hle
          rw [hy] at H2
          clear hx hy
          go_wp2_with fail
          refine (H1.out _ ⟨p, cp, rfl, hcp, HUX.out.below hb.out (Nat.le_refl _)⟩).mono ?_
          rintro q w5 ⟨rfl, hb5⟩
          have hb5' := Lib.hid (hb.out.trans (hb5.mono hb.out.size))
          have t5 := t1.below hb5 t1.lt
          clear c0 c1 c2 c3 t1 hb5 hb
          have c0 := t5.cell 0 (by simp)
          have c1 := t5.cell 1 (by simp)
          have c2 := t5.cell 2 (by simp)
          have c3 := t5.cell 3 (by simp)
          go_wp2_with fail
          refine (H2.out _ ⟨p, cp, rfl, hcp, HUX.out.below hb5'.out (Nat.le_refl _)⟩).mono ?_
          rintro q w6 ⟨rfl, hb6⟩
          have hb6' := Lib.hid (hb5'.out.trans (hb6.mono hb5'.out.size))
          have t6 := t5.below hb6 t5.lt
          clear c0 c1 c2 c3 t5 hb6 hb5'
          have c0 := t6.cell 0 (by simp)
          have c1 := t6.cell 1 (by simp)
          have c2 := t6.cell 2 (by simp)
          have c3 := t6.cell 3 (by simp)
          go_wp2_with fail
          have k6 := CBlk.new 3 w6 [.int .i64 (a : Int), .int .i64 (b : Int)]
          have hb7 : Below w6.heap.size w6 (w6.alloc (.cells #[.int .i64 (a : Int), .int .i64 (b : Int)] 3)) := (Below.refl _ w6).alloc (Nat.le_refl _) _
          have hb7' := hb6'.out.trans (hb7.mono hb6'.out.size)
          refine (H3.out _ ⟨p, cp, rfl, hcp, HUX.out.below hb7' (Nat.le_refl _)⟩ _ k6).mono ?_
          rintro q w8 ⟨rfl, hb8⟩
          have hb8' := Lib.hid (hb7'.trans (hb8.mono hb7'.size))
          have wb : IntKind.i64.wrap ((b : Int) + 1) = (b : Int) + 1 := jwrap (by omega) (by omega)
          have eab : ((a : Int) == (b : Int)) = (x && y) := han.symm ▸ rfl
          have eab2 : (a == b) = (x && y) := by
            rw [← eab]
            by_cases e : a = b
            · subst e; simp
            · rw [beq_eq_false_iff_ne.2 e, beq_eq_false_iff_ne.2 (by omega)]
          clear c0 c1 c2 c3 t6 hb7 hb7' hb8 hb6' k6 han H1 H2 H3
          have hlx : x = true → decide ((b : Int) < (a : Int)) = false := fun h => decide_eq_false (by have := hle h; omega)
          have hlx2 : x = true → decide (b < a) = false := fun h => decide_eq_false (by have := hle h; omega)
          clear hle
          cases x <;> cases y
          all_goals
            simp only [Bool.and_true, Bool.and_false] at eab eab2
            try (have hl1 := hlx rfl)
            try (have hl2 := hlx2 rfl)
            clear hlx hlx2
            go_wp2_with fail
            try clear hl1
            try clear hl2
            clear eab eab2
            go_loopw [13] (fun i wr => ∃ c : Nat, 1 ≤ c ∧ c ≤ G + 1 ∧ i = .int .i64 c ∧ Hid (Below X.heap.size X wr)) (fun i _ => G + 1 - (intOf i).toNat)
            case atStart => exact ⟨1, by omega, by omega, rfl, hb8'⟩
            case round =>
              clear hb8'
              obtain ⟨c, hc0, hc1, rfl, hb⟩ := hrel
              have t1 := HT0.out.below hb.out HT0.out.lt
              have c0 := t1.cell 0 (by simp)
              have c1 := t1.cell 1 (by simp)
              have c2 := t1.cell 2 (by simp)
              have c3 := t1.cell 3 (by simp)
              by_cases hclt : c ≤ G
              · have b7 : decide ((c : Int) ≤ (G : Int)) = true := decide_eq_true (by omega)
                have b8 : decide (c ≤ G) = true := decide_eq_true hclt
                have H4 := Lib.hid fun w h => inside_ok HCK.out (.slice p L.length cp) bb en b c hb0 hblt hc0 hclt w h
                have H5 := Lib.hid fun w h => inside_ok HCK.out (.slice p L.length cp) bb en a c ha0 hlt hc0 hclt w h
                have h3 := htr.out c hc0 hclt
                obtain ⟨pp, hp⟩ : ∃ x, hdB L (b : Int) (c : Int) = x := ⟨_, rfl⟩
                obtain ⟨qq, hq⟩ : ∃ x, hdB L (a : Int) (c : Int) = x := ⟨_, rfl⟩
                rw [hp, hq] at h3
                rw [hp] at H4
                rw [hq] at H5
                have wc : IntKind.i64.wrap ((c : Int) + 1) = (c : Int) + 1 := jwrap (by omega) (by omega)
                clear hp hq
                go_wp2_with fail
                refine (H4.out _ ⟨p, cp, rfl, hcp, HUX.out.below hb.out (Nat.le_refl _)⟩).mono ?_
                rintro q w9 ⟨rfl, hb9⟩
                have hb9' := Lib.hid (hb.out.trans (hb9.mono hb.out.size))
                have t9 := t1.below hb9 t1.lt
                clear c0 c1 c2 c3 t1 hb9 hb
                have c0 := t9.cell 0 (by simp)
                have c1 := t9.cell 1 (by simp)
                have c2 := t9.cell 2 (by simp)
                have c3 := t9.cell 3 (by simp)
                go_wp2_with fail
                refine (H5.out _ ⟨p, cp, rfl, hcp, HUX.out.below hb9'.out (Nat.le_refl _)⟩).mono ?_
                rintro q w10 ⟨rfl, hb10⟩
                have hb10' := Lib.hid (hb9'.out.trans (hb10.mono hb9'.out.size))
                clear c0 c1 c2 c3 t9 hb10 hb9' H4 H5
                cases pp <;> cases qq
                all_goals first
                  | (exact absurd (h3 trivial rfl) Bool.false_ne_true)
                  | (exact absurd (h3 rfl rfl) Bool.false_ne_true)
                  | (clear h3
                     go_wp2_with fail
                     go_roundw
                     case rel => exact ⟨c + 1, by omega, by omega, by go_num, hb10'⟩
                     case measure => simp [intOf]; omega)
              · obtain rfl : c = G + 1 := by omega
                have b7 : decide (((G + 1 : Nat) : Int) ≤ (G : Int)) = false := decide_eq_false (by omega)
                have b8 : decide ((G : Int) + 1 ≤ (G : Int)) = false := decide_eq_false (by omega)
                go_wp2_with fail
                clear c0 c1 c2 c3 t1
                go_roundw
                case rel => exact ⟨b + 1, by omega, by omega, by go_num, hb⟩
                case measure => simp [intOf]; omega
        · obtain rfl : b = G + 1 := by omega
          have b7 : decide (((G + 1 : Nat) : Int) ≤ (G : Int)) = false := decide_eq_false (by omega)
          have b8 : decide ((G : Int) + 1 ≤ (G : Int)) = false := decide_eq_false (by omega)
          have wa : IntKind.i64.wrap ((a : Int) + 1) = (a : Int) + 1 := jwrap (by omega) (by omega)
          go_wp2_with fail
          clear c0 c1 c2 c3 t1
          go_roundw
          case rel => exact ⟨a + 1, by omega, by omega, by go_num, hb⟩
          case measure => simp [intOf]; omega
    · obtain rfl : a = G + 1 := by omega
      have a5 : decide (((G + 1 : Nat) : Int) ≤ (G : Int)) = false := decide_eq_false (by omega)
      have a6 : decide ((G : Int) + 1 ≤ (G : Int)) = false := decide_eq_false (by omega)
      have HBW := Lib.hid (HB3.out.trans (hb.out.mono HB3.out.size))
      by_cases hexit : bb = true ∨ en = true ∨ G = 9
      · obtain ⟨q, hq⟩ : ∃ q, ((G : Int) == 9) = q := ⟨_, rfl⟩
        have hq2 : (G == 9) = q := by
          rw [← hq]
          by_cases e : G = 9
          · subst e; rfl
          · rw [beq_eq_false_iff_ne.2 e, beq_eq_false_iff_ne.2 (by omega)]
        have hall : bb = true ∨ en = true ∨ q = true := by
          rcases hexit with h | h | h
          · exact .inl h
          · exact .inr (.inl h)
          · exact .inr (.inr (by rw [← hq, h]; rfl))
        clear hexit
        cases bb <;> cases en <;> cases q
        all_goals first
          | (exfalso; simp at hall; done)
          | (clear hall
             go_wp2_with fail
             refine (HAW.out _ (hTS.below HBW.out)).mono ?_
             rintro x w9 ⟨rfl, hb9⟩
             go_wp2_with fail
             go_ret
             exact ⟨rfl, HBW.out.trans (hb9.mono HBW.out.size)⟩)
      · have hbb : bb = false := by cases bb <;> simp at hexit ⊢
        have hen : en = false := by cases en <;> simp at hexit ⊢
        have hG : G ≠ 9 := fun h => hexit (.inr (.inr h))
        subst hbb hen
        have hp2 := HUP.out rfl rfl (by omega)
        have q1 : ((G : Int) == 9) = false := beq_eq_false_iff_ne.2 (by omega)
        have q2 : (G == 9) = false := beq_eq_false_iff_ne.2 hG
        obtain ⟨S1, hS1⟩ : ∃ S, [40] ++ s = S := ⟨_, rfl⟩
        obtain ⟨S2, hS2⟩ : ∃ S, S1 ++ [41] = S := ⟨_, rfl⟩
        have k1 : ∀ w : World, (Op.stringOp .add ⟨#[40]⟩ ⟨s.toArray⟩).run Tryd.prog w = .ok (.string ⟨S1.toArray⟩) w := fun w => hS1 ▸ jstr_add [40] s (by simp; omega)
        have k2 : ∀ w : World, (Op.stringOp .add ⟨S1.toArray⟩ ⟨#[41]⟩).run Tryd.prog w = .ok (.string ⟨S2.toArray⟩) w := fun w => hS2 ▸ jstr_add S1 [41] (by rw [← hS1]; simp; omega)
        rw [hS1, hS2] at hp2
        have HP2 := Lib.hid fun w h => parse19_any S2 w h
        rw [hp2] at HP2
        have hck2 : chkR (upN ++ L.map sh) ((G : Int) + 1) = 0 := by
          have := par_chk (t := S2) (by rw [hp2])
          rw [hp2] at this
          exact this
        have HHU := Lib.hid fun (a b : Nat) (h0 : 1 ≤ a) (h1 : a ≤ G) (h2 : 1 ≤ b) (h3 : b ≤ G) => hd_up HCK.out (a := (a : Int)) (b := (b : Int)) (by omega) (by omega) (by omega) (by omega)
        have HF2 := Lib.hid fun (b : Nat) (h0 : 1 ≤ b) (h1 : b ≤ G) => HF.out (b : Int) (by omega) (by omega)
        obtain ⟨U, hU⟩ : ∃ U, upN ++ L.map sh = U := ⟨_, rfl⟩
        rw [hU] at HP2 hck2 HHU HF2
        unfold treeV at HP2
        dsimp only at HP2
        have e1 : ((G : Int) + 1) = ((G + 1 : Nat) : Int) := by omega
        have hck3 : chkR U ((G + 1 : Nat) : Int) = 0 := by rw [← e1]; exact hck2
        have HCK2 := Lib.hid hck3
        clear hU hS1 hS2 hp2 hck2 hck3 e1 hexit HUP HF
        have f1 := HF0.out.below hb.out HF0.out.lt
        have g0 := f1.free 0
        have g1 := f1.free 1
        have c4 := f1.cell 0 (by simp)
        have c5 := f1.cell 1 (by simp)
        have l0 := t1.lt
        have l1 := f1.lt
        go_wp2_with fail
        refine (HP2.out _ (hTS.below HBW.out).2.1).mono ?_
        rintro q w5 ⟨u, rfl, ⟨r, cr, rfl, hcr, hu⟩, hb5⟩
        have hb6 := Lib.hid (hb.out.trans (hb5.mono hb.out.size))
        have HV := Lib.hid hu
        have t2 := t1.below hb5 t1.lt
        have f2 := f1.below hb5 f1.lt
        clear c0 c1 c2 c3 c4 c5 g0 g1 l0 l1 t1 f1 hb5 hb HBW hu a5 a6
        have c0 := t2.cell 0 (by simp)
        have c1 := t2.cell 1 (by simp)
        have c2 := t2.cell 2 (by simp)
        have c3 := t2.cell 3 (by simp)
        have c4 := f2.cell 0 (by simp)
        have c5 := f2.cell 1 (by simp)
        have g0 := f2.free 0
        have g1 := f2.free 1
        have l0 := t2.lt
        have l1 := f2.lt
        have wG : IntKind.i64.wrap ((G : Int) + 1) = (G : Int) + 1 := jwrap (by omega) (by omega)
        go_wp2_with fail
        have hs1 := below_same f2 0 (.int .i64 0) rfl (Below.refl w5.heap.size w5)
        have f4 : CBlk 38 (w5.setCell ⟨B + 1, 0, none⟩ (.int .i64 0)) (B + 1) [.int .i64 0, .int .i64 0] := f2.set 0 (.int .i64 0)
        have hs2 := below_same f4 1 (.int .i64 0) rfl hs1
        have hsz : ((w5.setCell ⟨B + 1, 0, none⟩ (.int .i64 0)).setCell ⟨B + 1, 1, none⟩ (.int .i64 0)).heap.size = w5.heap.size := by simp only [World.size_setCell]
        generalize hY : (w5.setCell ⟨B + 1, 0, none⟩ (.int .i64 0)).setCell ⟨B + 1, 1, none⟩ (.int .i64 0) = Y at hs2 hsz ⊢
        have n1 := CBlk.new 24 Y [.slice r U.length cr, .bool false, .bool false, .int .i64 ((G : Int) + 1)]
        rw [hsz] at n1
        have hb7 : Below w5.heap.size w5 (Y.alloc (.cells #[.slice r U.length cr, .bool false, .bool false, .int .i64 ((G : Int) + 1)] 24)) := hs2.alloc (by rw [hsz]; exact Nat.le_refl _) _
        have t4 := t2.below hb7 t2.lt
        have HU7 := Lib.hid (HUX.out.below (hb6.out.trans (hb7.mono hb6.out.size)) (Nat.le_refl _))
        have HV7 := Lib.hid (HV.out.below hb7 (Nat.le_refl _))
        have hB7 := HB3.out.trans ((hb6.out.trans (hb7.mono hb6.out.size)).mono HB3.out.size)
        generalize hZ : Y.alloc (.cells #[.slice r U.length cr, .bool false, .bool false, .int .i64 ((G : Int) + 1)] 24) = Z at n1 t4 HU7 HV7 hB7 ⊢
        obtain ⟨C, hC⟩ : ∃ C, w5.heap.size = C := ⟨_, rfl⟩
        rw [hC] at n1 ⊢
        have HT4 := Lib.hid t4
        have HN1 := Lib.hid n1
        have HB7 := Lib.hid hB7
        have eG : Hid (((G + 1 : Nat) : Int) = (G : Int) + 1) := Lib.hid (by omega)
        clear hY hZ hC hs1 f4 hs2 hsz hb7 c0 c1 c2 c3 c4 c5 g0 g1 l0 l1 t2 f2 hb6 t4 n1 hB7 HV HUX HT0 HF0 HB3 k1 k2 q1 q2 HP2
        go_loopw [19] (fun i wr => ∃ a : Nat, 1 ≤ a ∧ a ≤ G + 1 ∧ i = .int .i64 a ∧ Hid (Below Z.heap.size Z wr)) (fun i _ => G + 1 - (intOf i).toNat)
        case atStart => exact ⟨1, by omega, by omega, rfl, Lib.hid (Below.refl _ _)⟩
        case round =>
          obtain ⟨a, ha0, ha1, rfl, hb⟩ := hrel
          have t1 := HT4.out.below hb.out HT4.out.lt
          have c3 := t1.cell 3 (by simp)
          by_cases hlt : a ≤ G
          · have a5 : decide ((a : Int) ≤ (G : Int)) = true := decide_eq_true (by omega)
            have a6 : decide (a ≤ G) = true := decide_eq_true hlt
            have wa : IntKind.i64.wrap ((a : Int) + 1) = (a : Int) + 1 := jwrap (by omega) (by omega)
            go_wp2_with fail
            clear c3 t1
            go_loopw [20] (fun i wr => ∃ b : Nat, 1 ≤ b ∧ b ≤ G + 1 ∧ i = .int .i64 b ∧ Hid (Below Z.heap.size Z wr)) (fun i _ => G + 1 - (intOf i).toNat)
            case atStart => exact ⟨1, by omega, by omega, rfl, hb⟩
            case round =>
              clear hb
              obtain ⟨b, hb0, hb1, rfl, hb⟩ := hrel
              have t1 := HT4.out.below hb.out HT4.out.lt
              have u1 := HN1.out.below hb.out HN1.out.lt
              have c0 := t1.cell 0 (by simp)
              have c1 := t1.cell 1 (by simp)
              have c2 := t1.cell 2 (by simp)
              have c3 := t1.cell 3 (by simp)
              have d0 := u1.cell 0 (by simp)
              have d1 := u1.cell 1 (by simp)
              have d2 := u1.cell 2 (by simp)
              have d3 := u1.cell 3 (by simp)
              by_cases hblt : b ≤ G
              · have b5 : decide ((b : Int) ≤ (G : Int)) = true := decide_eq_true (by omega)
                have b6 : decide (b ≤ G) = true := decide_eq_true hblt
                have wb : IntKind.i64.wrap ((b : Int) + 1) = (b : Int) + 1 := jwrap (by omega) (by omega)
                have H1 := Lib.hid fun w h => inside_ok HCK.out (.slice p L.length cp) false false a b ha0 hlt hb0 hblt w h
                have H2 := fun w h => inside_ok HCK2.out (.slice r U.length cr) false false (a + 1) (b + 1) (by omega) (by omega) (by omega) (by omega) w h
                have H3 := fun w h => inside_ok HCK2.out (.slice r U.length cr) false false 1 (a + 1) (by omega) (by omega) (by omega) (by omega) w h
                have ea : ((a + 1 : Nat) : Int) = (a : Int) + 1 := by omega
                have eb : ((b + 1 : Nat) : Int) = (b : Int) + 1 := by omega
                have e1 : ((1 : Nat) : Int) = 1 := rfl
                rw [eG.out, ea, eb, HHU.out a b ha0 hlt hb0 hblt] at H2
                rw [eG.out, ea, e1, HF2.out a ha0 hlt] at H3
                have H2 := Lib.hid H2
                have H3 := Lib.hid H3
                obtain ⟨x, hx⟩ : ∃ x, hdB L (a : Int) (b : Int) = x := ⟨_, rfl⟩
                rw [hx] at H1 H2
                clear hx ea eb e1
                go_wp2_with fail
                refine (H1.out _ ⟨p, cp, rfl, hcp, HU7.out.below hb.out (Nat.le_refl _)⟩).mono ?_
                rintro q w9 ⟨rfl, hb9⟩
                have hb9' := Lib.hid (hb.out.trans (hb9.mono hb.out.size))
                have u2 := u1.below hb9 u1.lt
                clear c0 c1 c2 c3 d0 d1 d2 d3 t1 u1 hb9 hb H1
                have d0 := u2.cell 0 (by simp)
                have d1 := u2.cell 1 (by simp)
                have d2 := u2.cell 2 (by simp)
                have d3 := u2.cell 3 (by simp)
                go_wp2_with fail
                refine (H2.out _ ⟨r, cr, rfl, hcr, HV7.out.below hb9'.out (Nat.le_refl _)⟩).mono ?_
                rintro q w10 ⟨rfl, hb10⟩
                have hb10' := Lib.hid (hb9'.out.trans (hb10.mono hb9'.out.size))
                have u3 := u2.below hb10 u2.lt
                clear d0 d1 d2 d3 u2 hb10 hb9' H2
                have d0 := u3.cell 0 (by simp)
                have d1 := u3.cell 1 (by simp)
                have d2 := u3.cell 2 (by simp)
                have d3 := u3.cell 3 (by simp)
                go_wp2_with fail
                refine (H3.out _ ⟨r, cr, rfl, hcr, HV7.out.below hb10'.out (Nat.le_refl _)⟩).mono ?_
                rintro q w11 ⟨rfl, hb11⟩
                have hb11' := Lib.hid (hb10'.out.trans (hb11.mono hb10'.out.size))
                clear d0 d1 d2 d3 u3 hb11 hb10' H3
                cases x
                all_goals
                  go_wp2_with fail
                  go_roundw
                  case rel => exact ⟨b + 1, by omega, by omega, by go_num, hb11'⟩
                  case measure => simp [intOf]; omega
              · obtain rfl : b = G + 1 := by omega
                have b7 : decide (((G + 1 : Nat) : Int) ≤ (G : Int)) = false := decide_eq_false (by omega)
                have b8 : decide ((G : Int) + 1 ≤ (G : Int)) = false := decide_eq_false (by omega)
                go_wp2_with fail
                clear c0 c1 c2 c3 d0 d1 d2 d3 t1 u1
                go_roundw
                case rel => exact ⟨a + 1, by omega, by omega, by go_num, hb⟩
                case measure => simp [intOf]; omega
          · obtain rfl : a = G + 1 := by omega
            have b7 : decide (((G + 1 : Nat) : Int) ≤ (G : Int)) = false := decide_eq_false (by omega)
            have b8 : decide ((G : Int) + 1 ≤ (G : Int)) = false := decide_eq_false (by omega)
            have hBW := HB7.out.trans (hb.out.mono HB7.out.size)
            go_wp2_with fail
            refine (HAW.out _ (hTS.below hBW)).mono ?_
            rintro x w12 ⟨rfl, hb12⟩
            go_wp2_with fail
            go_ret
            exact ⟨rfl, hBW.trans (hb12.mono hBW.size)⟩
end Go.Proofs.YtdnbnigebejgjaaDoor
