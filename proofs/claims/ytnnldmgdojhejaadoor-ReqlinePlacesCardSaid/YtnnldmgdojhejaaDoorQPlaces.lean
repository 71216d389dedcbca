/-
  The law ReqlinePlaces.
-/
import Derived.Test.YtnnldmgdojhejaaDoorQLong
namespace Go.Proofs.YtnnldmgdojhejaaDoor
open Go.RowKit
set_option maxRecDepth 100000 in
set_option maxHeartbeats 8000000 in
theorem reqlinePlaces_any (l x : List UInt8) (w : World) :
    Calls Tryd.prog 6 #[.string ⟨l.toArray⟩, .string ⟨x.toArray⟩] w fun e w' => e = .returned (.bool true) ∧ Below w.heap.size w w' := by
  by_cases h1 : 200 < l.length
  · have d : decide ((200 : Int) < (l.length : Int)) = true := decide_eq_true (by omega)
    have dn : decide (200 < l.length) = true := decide_eq_true h1
    clear h1
    go_enter Tryd.func6, Tryd.ntmps6
    go_wp2_with fail
    refine (awake8_any _).mono ?_
    rintro e w1 ⟨rfl, hb⟩
    have HB := Lib.hid hb
    clear hb
    go_wp2_with fail
    go_ret
    exact ⟨rfl, HB.out⟩
  have d : decide ((200 : Int) < (l.length : Int)) = false := decide_eq_false (by omega)
  have dn : decide (200 < l.length) = false := decide_eq_false h1
  by_cases h2 : 60 < x.length
  · have d2 : decide ((60 : Int) < (x.length : Int)) = true := decide_eq_true (by omega)
    have d2n : decide (60 < x.length) = true := decide_eq_true h2
    clear h1 h2
    go_enter Tryd.func6, Tryd.ntmps6
    go_wp2_with fail
    refine (awake8_any _).mono ?_
    rintro e w1 ⟨rfl, hb⟩
    have HB := Lib.hid hb
    clear hb
    go_wp2_with fail
    go_ret
    exact ⟨rfl, HB.out⟩
  have d2 : decide ((60 : Int) < (x.length : Int)) = false := decide_eq_false (by omega)
  have d2n : decide (60 < x.length) = false := decide_eq_false h2
  have hl : l.length < 100000 := by omega
  have hAt := prs_at (l := l)
  have hSt := prs_st (l := l)
  have hOk := prs_ok (l := l)
  have hTk := fun (h : (lngR l).1 = 0) k (hk : k ≤ (prsR l).2.2) => prs_take (l := l) h hk
  have hAp := fun h1 hx => prs_app (l := l) h1 x hx
  have hLa := lng_app (l := l) (x := x)
  obtain ⟨⟨⟨m, t⟩, st, at'⟩, hp⟩ : ∃ p, prsR l = p := ⟨_, rfl⟩
  rw [hp] at hAt hSt hOk hTk hAp
  dsimp only at hAt hSt hOk hTk hAp
  have HP := Lib.hid hp
  by_cases hst : st = 0
  · subst hst
    obtain ⟨ha, -⟩ := hOk rfl
    subst ha
    clear h1 h2 hAt hSt hTk hAp hLa hp hOk
    go_enter Tryd.func6, Tryd.ntmps6
    go_wp2_with fail
    refine (rparse_any l hl _).mono ?_
    rintro e w1 ⟨rfl, hb⟩
    rw [HP.out]
    unfold prsW rlV
    dsimp only
    rw [show ((0 : Nat) : Int) = 0 from rfl]
    obtain ⟨w1a, hWa⟩ : ∃ W2, w1.alloc (.cells #[.string ⟨m.toArray⟩, .string ⟨t.toArray⟩] 29) = W2 := ⟨_, rfl⟩
    have HB := Lib.hid (show Below w.heap.size w w1a by rw [← hWa]; exact (hb).alloc (hb).size _)
    clear hb
    go_upto_region 4 with fail
    clear hWa
    go_wp2_with fail
    refine (awake8_any _).mono ?_
    rintro e wz ⟨rfl, hb⟩
    have HBz := Lib.hid (HB.out.trans (hb.mono HB.out.size))
    clear hb
    go_wp2_with fail
    go_ret
    exact ⟨rfl, HBz.out⟩
  have e1 : ((st : Int) == 0) = false := by rw [beq_eq_false_iff_ne]; omega
  have e1n : ((st : Int) != 0) = true := by rw [bne_iff_ne]; omega
  have e2 : decide ((at' : Int) < 0) = false := decide_eq_false (by omega)
  have e3 : decide ((l.length : Int) < (at' : Int)) = false := decide_eq_false (by omega)
  have e3n : decide (l.length < at') = false := decide_eq_false (by omega)
  obtain ⟨⟨lo, pl⟩, hL⟩ : ∃ p, lngR l = p := ⟨_, rfl⟩
  rw [hL] at hTk hAp hLa hSt
  dsimp only at hTk hAp hLa hSt
  have HL := Lib.hid hL
  have HTk := Lib.hid hTk
  have HAp := Lib.hid hAp
  have HLa := Lib.hid hLa
  have HST := Lib.hid hst
  have HAt := Lib.hid hAt
  have hadd := qadd2 l x (by omega)
  have hXl : (l ++ x).length < 100000 := by rw [List.length_append]; omega
  obtain ⟨X, hX⟩ : ∃ X, l ++ x = X := ⟨_, rfl⟩
  rw [hX] at hadd hXl
  have HX := Lib.hid hX
  clear h1 h2 hAt hTk hAp hLa hp hOk hSt hst hL hX
  go_enter Tryd.func6, Tryd.ntmps6
  go_wp2_with fail
  refine (rparse_any l hl _).mono ?_
  rintro e w1 ⟨rfl, hb⟩
  rw [HP.out]
  unfold prsW rlV
  dsimp only
  obtain ⟨w1a, hWa⟩ : ∃ W2, w1.alloc (.cells #[.string ⟨m.toArray⟩, .string ⟨t.toArray⟩] 29) = W2 := ⟨_, rfl⟩
  have HB := Lib.hid (show Below w.heap.size w w1a by rw [← hWa]; exact (hb).alloc (hb).size _)
  clear hb
  go_upto_region 4 with fail
  clear hWa
  go_wp2_with fail
  refine (rlong_any l hl _).mono ?_
  rintro e w2 ⟨rfl, hb⟩
  rw [HL.out]
  unfold lngW
  dsimp only
  have HB2 := Lib.hid (HB.out.trans (hb.mono HB.out.size))
  clear hb HB
  by_cases hlo : lo = 0
  · subst hlo
    rw [show ((0 : Nat) : Int) = 0 from rfl]
    go_wp2_with fail
    go_loopw [10] (fun i wr => ∃ k : Nat, k ≤ at' + 1 ∧ i = .int .i64 k ∧ Hid (Below w.heap.size w wr)) (fun i _ => at' + 1 - (intOf i).toNat)
    case atStart => exact ⟨0, Nat.zero_le _, rfl, HB2⟩
    case round =>
      clear HB2
      obtain ⟨k, hk, rfl, HB3⟩ := hrel
      by_cases hlt : k ≤ at'
      · have d3 : decide ((k : Int) ≤ (at' : Int)) = true := decide_eq_true (by omega)
        have d3n : decide (k ≤ at') = true := decide_eq_true hlt
        have hkl : k ≤ l.length := Nat.le_trans hlt HAt.out
        have hk1 : (k : Int) ≤ (l.length : Int) := by omega
        have hcut := qtake l k
        have ht := HTk.out (by trivial) k hlt
        obtain ⟨Y, hY⟩ : ∃ Y, l.take k = Y := ⟨_, rfl⟩
        have hYl : Y.length < 100000 := by rw [← hY, List.length_take]; omega
        rw [hY] at ht hcut
        obtain ⟨⟨⟨m2, t2⟩, st2, at2⟩, hp2⟩ : ∃ p, prsR Y = p := ⟨_, rfl⟩
        rw [hp2] at ht
        dsimp only at ht
        obtain ⟨hs2, rfl⟩ := ht
        have HP2 := Lib.hid hp2
        have w1' : IntKind.i64.wrap ((at2 : Int) + 1) = (at2 : Int) + 1 := qwrap (by omega) (by omega)
        clear hp2 hY
        go_wp2_with fail
        refine (rparse_any Y hYl _).mono ?_
        rintro e w4 ⟨rfl, hb⟩
        rw [HP2.out]
        unfold prsW rlV
        dsimp only
        obtain ⟨w4a, hWa⟩ : ∃ W2, w4.alloc (.cells #[.string ⟨m2.toArray⟩, .string ⟨t2.toArray⟩] 29) = W2 := ⟨_, rfl⟩
        have HB4 := Lib.hid (show Below w.heap.size w w4a by rw [← hWa]; exact (HB3.out.trans (hb.mono HB3.out.size)).alloc (HB3.out.trans (hb.mono HB3.out.size)).size _)
        clear hb
        go_upto_region 13 with fail
        clear hWa
        rcases hs2 with rfl | rfl
        · rw [show ((400 : Nat) : Int) = 400 from rfl]
          go_wp2_with fail
          go_roundw
          case rel => exact ⟨at2 + 1, by omega, by go_num, HB4⟩
          case measure => simp [intOf]; omega
        · rw [show ((0 : Nat) : Int) = 0 from rfl]
          go_wp2_with fail
          go_roundw
          case rel => exact ⟨at2 + 1, by omega, by go_num, HB4⟩
          case measure => simp [intOf]; omega
      · have d3 : decide ((k : Int) ≤ (at' : Int)) = false := decide_eq_false (by omega)
        have d3n : decide (k ≤ at') = false := decide_eq_false hlt
        by_cases hend : at' = l.length
        · have e4 : ((at' : Int) == (l.length : Int)) = true := by rw [beq_iff_eq]; omega
          clear hend
          go_wp2_with fail
          refine (awake8_any _).mono ?_
          rintro e wz ⟨rfl, hb⟩
          have HBz := Lib.hid (HB3.out.trans (hb.mono HB3.out.size))
          clear hb
          go_wp2_with fail
          go_ret
          exact ⟨rfl, HBz.out⟩
        have e4 : ((at' : Int) == (l.length : Int)) = false := by rw [beq_eq_false_iff_ne]; omega
        have HE := Lib.hid hend
        clear hend
        obtain ⟨⟨lo2, pl2⟩, hL2⟩ : ∃ p, lngR X = p := ⟨_, rfl⟩
        have HL2 := Lib.hid hL2
        clear hL2
        go_wp2_with fail
        refine (rlong_any X hXl _).mono ?_
        rintro e w4 ⟨rfl, hb⟩
        rw [HL2.out]
        unfold lngW
        dsimp only
        have HB4 := Lib.hid (HB3.out.trans (hb.mono HB3.out.size))
        clear hb HB3
        by_cases h2 : lo2 = 0
        · subst h2
          rw [show ((0 : Nat) : Int) = 0 from rfl]
          have HP2 : Hid (prsR X = ((m, t), st, at')) := Lib.hid (by
            have h := HX.out
            subst h
            exact HAp.out HE.out (fun _ => by rw [HL2.out]))
          go_wp2_with fail
          refine (rparse_any X hXl _).mono ?_
          rintro e w5 ⟨rfl, hb⟩
          rw [HP2.out]
          unfold prsW rlV
          dsimp only
          obtain ⟨w5a, hWa⟩ : ∃ W2, w5.alloc (.cells #[.string ⟨m.toArray⟩, .string ⟨t.toArray⟩] 29) = W2 := ⟨_, rfl⟩
          have HB5 := Lib.hid (show Below w.heap.size w w5a by rw [← hWa]; exact (HB4.out.trans (hb.mono HB4.out.size)).alloc (HB4.out.trans (hb.mono HB4.out.size)).size _)
          clear hb
          go_upto_region 22 with fail
          clear hWa
          go_wp2_with fail
          refine (awake8_any _).mono ?_
          rintro e wz ⟨rfl, hb⟩
          have HBz := Lib.hid (HB5.out.trans (hb.mono HB5.out.size))
          clear hb
          go_wp2_with fail
          go_ret
          exact ⟨rfl, HBz.out⟩
        · have e5 : ((lo2 : Int) != 0) = true := by rw [bne_iff_ne]; omega
          clear h2
          go_wp2_with fail
          refine (awake8_any _).mono ?_
          rintro e wz ⟨rfl, hb⟩
          have HBz := Lib.hid (HB4.out.trans (hb.mono HB4.out.size))
          clear hb
          go_wp2_with fail
          go_ret
          exact ⟨rfl, HBz.out⟩
  · have d6 : ((lo : Int) == 0) = false := by rw [beq_eq_false_iff_ne]; omega
    have HLO := Lib.hid hlo
    clear hlo
    go_wp2_with fail
    go_loopw [10] (fun i wr => i = .int .i64 0 ∧ Hid (Below w.heap.size w wr)) (fun i _ => 0)
    case atStart => exact ⟨rfl, HB2⟩
    case round =>
      clear HB2
      obtain ⟨rfl, HB3⟩ := hrel
      have d3 : decide ((0 : Int) ≤ (at' : Int)) = true := decide_eq_true (by omega)
      by_cases hend : at' = l.length
      · have e4 : ((at' : Int) == (l.length : Int)) = true := by rw [beq_iff_eq]; omega
        clear hend
        go_wp2_with fail
        refine (awake8_any _).mono ?_
        rintro e wz ⟨rfl, hb⟩
        have HBz := Lib.hid (HB3.out.trans (hb.mono HB3.out.size))
        clear hb
        go_wp2_with fail
        go_ret
        exact ⟨rfl, HBz.out⟩
      have e4 : ((at' : Int) == (l.length : Int)) = false := by rw [beq_eq_false_iff_ne]; omega
      have HE := Lib.hid hend
      clear hend
      have HP2 : Hid (prsR X = ((m, t), st, at')) := Lib.hid (by
        have h := HX.out
        subst h
        exact HAp.out HE.out (fun h => absurd h HLO.out))
      go_wp2_with fail
      refine (rparse_any X hXl _).mono ?_
      rintro e w5 ⟨rfl, hb⟩
      rw [HP2.out]
      unfold prsW rlV
      dsimp only
      obtain ⟨w5a, hWa⟩ : ∃ W2, w5.alloc (.cells #[.string ⟨m.toArray⟩, .string ⟨t.toArray⟩] 29) = W2 := ⟨_, rfl⟩
      have HB5 := Lib.hid (show Below w.heap.size w w5a by rw [← hWa]; exact (HB3.out.trans (hb.mono HB3.out.size)).alloc (HB3.out.trans (hb.mono HB3.out.size)).size _)
      clear hb
      go_upto_region 22 with fail
      clear hWa
      go_wp2_with fail
      refine (awake8_any _).mono ?_
      rintro e wz ⟨rfl, hb⟩
      have HBz := Lib.hid (HB5.out.trans (hb.mono HB5.out.size))
      clear hb
      go_wp2_with fail
      go_ret
      exact ⟨rfl, HBz.out⟩
end Go.Proofs.YtnnldmgdojhejaaDoor
