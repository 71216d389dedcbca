/-
  The law ReqlineLong.
-/
import Derived.Test.YtnnldmgdojhejaaDoorQHelp
import Derived.Test.YtnnldmgdojhejaaDoorQPure2
namespace Go.Proofs.YtnnldmgdojhejaaDoor
open Go.RowKit
theorem qadd2 (a b : List UInt8) (h : a.length + b.length < 1000000) (w : World) : (Op.stringOp .add ⟨a.toArray⟩ ⟨b.toArray⟩).run Tryd.prog w = .ok (.string ⟨(a ++ b).toArray⟩) w := qadd a b (by omega)
set_option maxRecDepth 100000 in
set_option maxHeartbeats 4000000 in
theorem reqlineLong_any (l x : List UInt8) (cut : Int) (w : World) :
    Calls Tryd.prog 5 #[.string ⟨l.toArray⟩, .string ⟨x.toArray⟩, .int .i64 cut] w fun e w' => e = .returned (.bool true) ∧ Below w.heap.size w w' := by
  by_cases h1 : 2000 < l.length
  · have D := Lib.hid (show decide (2000 < l.length) = true from decide_eq_true h1)
    clear h1
    go_enter Tryd.func5, Tryd.ntmps5
    go_wp2_with fail
    refine (heavy_any l _).mono ?_
    rintro e w1 ⟨rfl, rfl⟩
    rw [D.out]
    go_wp2_with fail
    refine (awake8_any _).mono ?_
    rintro e w1 ⟨rfl, hb⟩
    have HB := Lib.hid hb
    clear hb
    go_wp2_with fail
    go_ret
    exact ⟨rfl, HB.out⟩
  have D := Lib.hid (show decide (2000 < l.length) = false from decide_eq_false h1)
  by_cases h2 : 100 < x.length
  · have d2 : decide ((100 : Int) < (x.length : Int)) = true := decide_eq_true (by omega)
    have d2n : decide (100 < x.length) = true := decide_eq_true h2
    clear h1 h2
    go_enter Tryd.func5, Tryd.ntmps5
    go_wp2_with fail
    refine (heavy_any l _).mono ?_
    rintro e w1 ⟨rfl, rfl⟩
    rw [D.out]
    go_wp2_with fail
    refine (awake8_any _).mono ?_
    rintro e w1 ⟨rfl, hb⟩
    have HB := Lib.hid hb
    clear hb
    go_wp2_with fail
    go_ret
    exact ⟨rfl, HB.out⟩
  have d2 : decide ((100 : Int) < (x.length : Int)) = false := decide_eq_false (by omega)
  have d2n : decide (100 < x.length) = false := decide_eq_false h2
  have hl : l.length < 100000 := by omega
  obtain ⟨⟨st, at'⟩, hL⟩ : ∃ p, lngR l = p := ⟨_, rfl⟩
  have HL := Lib.hid hL
  by_cases hst : st = 0
  · subst hst
    have ht := lng_take (l := l) (by rw [hL])
    rw [hL] at ht
    obtain ⟨ha, ht⟩ := ht
    dsimp only at ha
    obtain ⟨c1, hmin⟩ : ∃ c1, (if (l.length : Int) < cut then (l.length : Int) else cut) = c1 := ⟨_, rfl⟩
    have hc1 : c1 ≤ (l.length : Int) := by rw [← hmin]; split <;> omega
    obtain ⟨k, hmax, hkl⟩ : ∃ k : Nat, (if 0 < c1 then c1 else 0) = (k : Int) ∧ k ≤ l.length := ⟨c1.toNat, by split <;> omega, by omega⟩
    have hmin2 : min cut (l.length : Int) = c1 := by rw [← hmin]; omega
    have hmax2 : max 0 c1 = (k : Int) := by rw [← hmax]; omega
    have HT := Lib.hid (ht k hkl)
    have hcut := qtake l k
    obtain ⟨X, hX⟩ : ∃ X, l.take k = X := ⟨_, rfl⟩
    have hXl : X.length < 100000 := by rw [← hX, List.length_take]; omega
    rw [hX] at HT hcut
    have hk1 : (k : Int) ≤ (l.length : Int) := by omega
    subst ha
    clear hL ht hX h1 h2 hc1
    go_enter Tryd.func5, Tryd.ntmps5
    go_wp2_with fail
    refine (heavy_any l _).mono ?_
    rintro e w1 ⟨rfl, rfl⟩
    rw [D.out]
    go_wp2_with fail
    refine (rlong_any l hl _).mono ?_
    rintro e w1 ⟨rfl, hb⟩
    rw [HL.out]
    unfold lngW
    dsimp only
    rw [show ((0 : Nat) : Int) = 0 from rfl]
    have HB1 := Lib.hid hb
    clear hb
    go_wp2_with fail
    refine (rlong_any X hXl _).mono ?_
    rintro e w2 ⟨rfl, hb⟩
    rw [HT.out]
    unfold lngW
    dsimp only
    have HB2 := Lib.hid (HB1.out.trans (hb.mono HB1.out.size))
    clear hb
    rw [show ((0 : Nat) : Int) = 0 from rfl]
    go_wp2_with fail
    refine (awake8_any _).mono ?_
    rintro e w3 ⟨rfl, hb⟩
    have HB3 := Lib.hid (HB2.out.trans (hb.mono HB2.out.size))
    clear hb
    go_wp2_with fail
    go_ret
    exact ⟨rfl, HB3.out⟩
  · have ha := lng_app (l := l) (by rw [hL]; exact hst) x
    rw [hL] at ha
    obtain ⟨ha, hlt⟩ := ha
    dsimp only at hlt
    have HA := Lib.hid ha
    have hadd := qadd2 l x (by omega)
    have e1 : ((st : Int) != 0) = true := by rw [bne_iff_ne]; omega
    have d3 : decide ((at' : Int) < (l.length : Int)) = true := decide_eq_true (by omega)
    have d3n : decide (at' < l.length) = true := decide_eq_true hlt
    have hXl : (l ++ x).length < 100000 := by rw [List.length_append]; omega
    obtain ⟨X, hX⟩ : ∃ X, l ++ x = X := ⟨_, rfl⟩
    rw [hX] at HA hadd hXl
    clear hL ha hX h1 h2 hst hlt
    go_enter Tryd.func5, Tryd.ntmps5
    go_wp2_with fail
    refine (heavy_any l _).mono ?_
    rintro e w1 ⟨rfl, rfl⟩
    rw [D.out]
    go_wp2_with fail
    refine (rlong_any l hl _).mono ?_
    rintro e w1 ⟨rfl, hb⟩
    rw [HL.out]
    unfold lngW
    dsimp only
    have HB1 := Lib.hid hb
    clear hb
    go_wp2_with fail
    refine (rlong_any X hXl _).mono ?_
    rintro e w2 ⟨rfl, hb⟩
    rw [HA.out]
    unfold lngW
    dsimp only
    have HB2 := Lib.hid (HB1.out.trans (hb.mono HB1.out.size))
    clear hb
    go_wp2_with fail
    refine (awake8_any _).mono ?_
    rintro e w3 ⟨rfl, hb⟩
    have HB3 := Lib.hid (HB2.out.trans (hb.mono HB2.out.size))
    clear hb
    go_wp2_with fail
    go_ret
    exact ⟨rfl, HB3.out⟩
end Go.Proofs.YtnnldmgdojhejaaDoor
