/-
  The reference's byteOf, Target, begins of lines.
-/
import Derived.Test.YtnnldmgdojhejaaDoorQRef1
namespace Go.Proofs.YtnnldmgdojhejaaDoor
open Go.RowKit
attribute [local go_sem] ba_get
/-- A byte of targets. -/
def tgN (n : Nat) : Bool := decide (32 < n) && decide (n < 127) && n != 35
def tgB (b : UInt8) : Bool := tgN b.toNat
set_option maxHeartbeats 1000000 in
theorem refByteOf_any (n : Nat) (hn : n < 256) (w : World) :
    Calls Tryd.prog 37 #[.int .u8 (n : Int)] w fun e w' => e = .returned (.bool (tgN n)) ∧ w = w' := by
  obtain ⟨R, hR⟩ : ∃ R, tgN n = R := ⟨_, rfl⟩
  rw [hR]
  have HR := Lib.hid hR
  clear hR
  by_cases h1 : 32 < n
  · have d1 : decide ((32 : Int) < (n : Int)) = true := decide_eq_true (by omega)
    by_cases h2 : n < 127
    · have d2 : decide ((n : Int) < 127) = true := decide_eq_true (by omega)
      by_cases h3 : n = 35
      · have d3 : ((n : Int) != 35) = false := by rw [bne_eq_false_iff_eq]; omega
        have hr : Hid (R = false) := Lib.hid (by rw [← HR.out]; unfold tgN; rw [h3]; rfl)
        clear h1 h2 h3
        go_enter Tryd.func37, Tryd.ntmps37
        go_wp2_with fail
        go_ret
        exact ⟨by rw [hr.out]; rfl, rfl⟩
      · have d3 : ((n : Int) != 35) = true := by rw [bne_iff_ne]; omega
        have hr : Hid (R = true) := Lib.hid (by rw [← HR.out]; unfold tgN; simp [h1, h2, h3])
        clear h1 h2 h3
        go_enter Tryd.func37, Tryd.ntmps37
        go_wp2_with fail
        go_ret
        exact ⟨by rw [hr.out]; rfl, rfl⟩
    · have d2 : decide ((n : Int) < 127) = false := decide_eq_false (by omega)
      have hr : Hid (R = false) := Lib.hid (by rw [← HR.out]; unfold tgN; simp [h2])
      clear h1 h2
      go_enter Tryd.func37, Tryd.ntmps37
      go_wp2_with fail
      go_ret
      exact ⟨by rw [hr.out]; rfl, rfl⟩
  · have d1 : decide ((32 : Int) < (n : Int)) = false := decide_eq_false (by omega)
    have hr : Hid (R = false) := Lib.hid (by rw [← HR.out]; unfold tgN; simp [h1])
    clear h1
    go_enter Tryd.func37, Tryd.ntmps37
    go_wp2_with fail
    go_ret
    exact ⟨by rw [hr.out]; rfl, rfl⟩
/-- A target begins so. -/
def slB : List UInt8 → Bool
  | [] => false
  | c :: _ => c.toNat == 47
/-- What is wrong with a target. -/
def tgtR (l : List UInt8) : Nat := if 1024 < l.length then 4 else if (l.all tgB && slB l) = true then 0 else 3
theorem q_empty {t : List UInt8} (h : t ≠ []) : t.isEmpty = false := by
  cases t with
  | nil => exact absurd rfl h
  | cons c r => rfl
set_option maxHeartbeats 2000000 in
theorem refTarget8_any (l : List UInt8) (hl : l.length < 200000000000000) (w : World) :
    Calls Tryd.prog 32 #[.string ⟨l.toArray⟩] w fun e w' => e = .returned (.int .i64 (tgtR l : Nat)) ∧ Below w.heap.size w w' := by
  by_cases h1 : 1024 < l.length
  · have d1 : decide ((1024 : Int) < (l.length : Int)) = true := decide_eq_true (by omega)
    have d1n : decide (1024 < l.length) = true := decide_eq_true h1
    have HR : Hid (tgtR l = 4) := Lib.hid (if_pos h1)
    clear h1
    go_enter Tryd.func32, Tryd.ntmps32
    go_wp2_with fail
    go_ret
    exact ⟨by rw [HR.out]; rfl, Below.refl _ _⟩
  · have d1 : decide ((1024 : Int) < (l.length : Int)) = false := decide_eq_false (by omega)
    have d1n : decide (1024 < l.length) = false := decide_eq_false h1
    obtain ⟨q, hq⟩ : ∃ q, l.all tgB = q := ⟨_, rfl⟩
    have HR : Hid (tgtR l = if (q && slB l) = true then 0 else 3) := Lib.hid (by unfold tgtR; rw [if_neg h1, hq])
    have H0 : Hid ((l.drop 0).all tgB = q) := Lib.hid hq
    clear h1 hq
    go_enter Tryd.func32, Tryd.ntmps32
    go_wp2_with fail
    go_loopw [3] (fun i wr => ∃ k : Nat, k ≤ l.length ∧ i = .int .i64 k ∧ Hid ((l.drop k).all tgB = q) ∧ wr = w) (fun i _ => l.length - (intOf i).toNat)
    case atStart => exact ⟨0, Nat.zero_le _, rfl, H0, rfl⟩
    case round =>
      clear H0
      obtain ⟨k, hk, rfl, hp, rfl⟩ := hrel
      by_cases hlt : k < l.length
      · have h1 : decide ((k : Int) < (l.length : Int)) = true := decide_eq_true (by omega)
        have hb2 : (k : Int) < (l.length : Int) := by omega
        have hat := all_drop (p := tgB) hlt
        have hy256 := (l[k]).toNat_lt
        obtain ⟨y, hy⟩ : ∃ y, (l[k]).toNat = y := ⟨_, rfl⟩
        unfold tgB at hat
        rw [hy] at hat hy256
        obtain ⟨b, hb⟩ : ∃ b, tgN y = b := ⟨_, rfl⟩
        rw [hb] at hat
        have HBy := Lib.hid hb
        clear hb
        cases b
        · have hq' : Hid (q = false) := Lib.hid (by rw [← hp.out]; unfold tgB; rw [hat]; rfl)
          clear hat
          go_wp2_with fail
          refine (refByteOf_any y hy256 _).mono ?_
          rintro e w' ⟨rfl, rfl⟩
          rw [HBy.out]
          go_wp2_with fail
          go_ret
          exact ⟨by rw [HR.out, hq'.out]; rfl, Below.refl _ _⟩
        · have hnext : Hid ((l.drop (k + 1)).all tgB = q) := Lib.hid (by rw [← hp.out]; unfold tgB; rw [hat]; rfl)
          clear hat
          go_wp2_with fail
          refine (refByteOf_any y hy256 _).mono ?_
          rintro e w' ⟨rfl, rfl⟩
          rw [HBy.out]
          go_wp2_with fail
          go_roundw
          case rel => exact ⟨k + 1, by omega, by go_num, hnext, trivial⟩
          case measure => simp [intOf]; omega
      · have h1 : decide ((k : Int) < (l.length : Int)) = false := decide_eq_false (by omega)
        have hq' : Hid (q = true) := Lib.hid (by rw [← hp.out, List.drop_eq_nil_of_le (by omega)]; rfl)
        clear hp
        by_cases h0 : l = []
        · subst h0
          go_wp2_with fail
          go_ret
          exact ⟨by rw [HR.out]; simp [slB], Below.refl _ _⟩
        · have he := q_empty h0
          have hpos : 0 < l.length := List.length_pos_iff.2 h0
          have hb3 : (0 : Int) < (l.length : Int) := by omega
          have hsl : slB l = ((l[0]).toNat == 47) := by
            cases l with
            | nil => exact absurd rfl h0
            | cons c r => rfl
          obtain ⟨y, hy⟩ : ∃ y, (l[0]).toNat = y := ⟨_, rfl⟩
          rw [hy] at hsl
          by_cases h47 : y = 47
          · have e1 : ((y : Int) != 47) = false := by rw [bne_eq_false_iff_eq]; omega
            have hr : Hid (tgtR l = 0) := Lib.hid (by rw [HR.out, hq'.out, hsl, h47]; rfl)
            clear hsl h0 h47
            go_wp2_with fail
            go_ret
            exact ⟨by rw [hr.out]; rfl, Below.refl _ _⟩
          · have e1 : ((y : Int) != 47) = true := by rw [bne_iff_ne]; omega
            have hr : Hid (tgtR l = 3) := Lib.hid (by rw [HR.out, hq'.out, hsl, beq_eq_false_iff_ne.2 h47]; rfl)
            clear hsl h0 h47
            go_wp2_with fail
            go_ret
            exact ⟨by rw [hr.out]; rfl, Below.refl _ _⟩
/-- The version of request lines. -/
def verT : List UInt8 := [72, 84, 84, 80, 47, 49, 46, 49]
/-- A line is the beginning of a request line. -/
def begR (p : List UInt8 × List UInt8 × List UInt8 × Nat) : Bool :=
  if 16 < p.1.length ∨ (p.2.2.2 = 1 ∧ p.1 = []) then (p.2.2.2 == 1 && p.1.isEmpty)
  else if isV p.1 = false then false
  else if p.2.2.2 = 1 ∨ (p.2.2.2 = 2 ∧ p.2.1 = []) then true
  else if tgtR p.2.1 ≠ 0 then false
  else p.2.2.2 == 2 || (decide (p.2.2.1.length ≤ 8) && verT.take p.2.2.1.length == p.2.2.1)
theorem prtR_n (l : List UInt8) : (prtR l).2.2.2 = 1 ∨ (prtR l).2.2.2 = 2 ∨ (prtR l).2.2.2 = 3 := by
  unfold prtR
  split
  · exact .inl rfl
  · split
    · exact .inr (.inl rfl)
    · exact .inr (.inr rfl)
set_option maxRecDepth 100000 in
set_option maxHeartbeats 8000000 in
theorem refBegins_any (l : List UInt8) (hl : l.length < 100000000000000) (w : World) :
    Calls Tryd.prog 23 #[.string ⟨l.toArray⟩] w fun e w' => e = .returned (.bool (begR (prtR l))) ∧ Below w.heap.size w w' := by
  have hle := prtR_le l
  have hn := prtR_n l
  obtain ⟨⟨a, b, c, k⟩, hp⟩ : ∃ p, prtR l = p := ⟨_, rfl⟩
  rw [hp] at hle hn
  dsimp only at hle hn
  have HP := Lib.hid hp
  rw [hp]
  obtain ⟨R, hR⟩ : ∃ R, begR (a, b, c, k) = R := ⟨_, rfl⟩
  rw [hR]
  unfold begR at hR
  dsimp only at hR
  clear hp
  go_enter Tryd.func23, Tryd.ntmps23
  go_wp2_with fail
  refine (refParts8_any l hl _).mono ?_
  rintro e w1 ⟨rfl, hb⟩
  rw [HP.out]
  unfold prtW
  have HB := Lib.hid hb
  clear hb
  dsimp only
  by_cases h1 : 16 < a.length
  · have d1 : decide ((16 : Int) < (a.length : Int)) = true := decide_eq_true (by omega)
    have d1n : decide (16 < a.length) = true := decide_eq_true h1
    rw [if_pos (.inl h1)] at hR
    have hne : a.isEmpty = false := q_empty (fun e => by rw [e] at h1; simp at h1)
    rw [hne] at hR
    have HR : Hid (R = false) := Lib.hid (by rw [← hR]; simp)
    clear h1 hR
    rcases hn with rfl | rfl | rfl
    all_goals
      go_wp2_with fail
      go_ret
      exact ⟨by rw [HR.out]; rfl, HB.out⟩
  have d1 : decide ((16 : Int) < (a.length : Int)) = false := decide_eq_false (by omega)
  have d1n : decide (16 < a.length) = false := decide_eq_false h1
  by_cases ha : a = []
  · subst ha
    rcases hn with rfl | rfl | rfl
    · have HR : Hid (R = true) := Lib.hid (by rw [← hR]; simp)
      clear hR
      go_wp2_with fail
      go_ret
      exact ⟨by rw [HR.out]; rfl, HB.out⟩
    all_goals
      have HR : Hid (R = false) := Lib.hid (by rw [← hR]; simp [isV])
      have HI : Hid (isV ([] : List UInt8) = false) := Lib.hid rfl
      clear hR
      go_wp2_with fail
      refine (refIs_any [] (by simp) _).mono ?_
      rintro e w' ⟨rfl, rfl⟩
      rw [HI.out]
      go_wp2_with fail
      go_ret
      exact ⟨by rw [HR.out]; rfl, HB.out⟩
  have hae := q_empty ha
  rw [if_neg (by rintro (h | ⟨-, h⟩); exact h1 h; exact ha h)] at hR
  obtain ⟨v, hv⟩ : ∃ v, isV a = v := ⟨_, rfl⟩
  rw [hv] at hR
  have HV := Lib.hid hv
  have hal : a.length < 200000000000000 := by omega
  clear hv h1 ha
  cases v
  · rw [if_pos rfl] at hR
    have HR := Lib.hid hR
    clear hR
    rcases hn with rfl | rfl | rfl
    all_goals
      go_wp2_with fail
      refine (refIs_any a hal _).mono ?_
      rintro e w' ⟨rfl, rfl⟩
      rw [HV.out]
      go_wp2_with fail
      go_ret
      exact ⟨by rw [← HR.out]; rfl, HB.out⟩
  rw [if_neg (by decide)] at hR
  rcases hn with rfl | rfl | rfl
  · rw [if_pos (.inl rfl)] at hR
    have HR := Lib.hid hR
    clear hR
    go_wp2_with fail
    refine (refIs_any a hal _).mono ?_
    rintro e w' ⟨rfl, rfl⟩
    rw [HV.out]
    go_wp2_with fail
    go_ret
    exact ⟨by rw [← HR.out]; rfl, HB.out⟩
  · by_cases hb0 : b = []
    · subst hb0
      rw [if_pos (.inr ⟨rfl, rfl⟩)] at hR
      have HR := Lib.hid hR
      clear hR
      go_wp2_with fail
      refine (refIs_any a hal _).mono ?_
      rintro e w' ⟨rfl, rfl⟩
      rw [HV.out]
      go_wp2_with fail
      go_ret
      exact ⟨by rw [← HR.out]; rfl, HB.out⟩
    · have hbe := q_empty hb0
      rw [if_neg (by rintro (h | ⟨-, h⟩); exact absurd h (by decide); exact hb0 h)] at hR
      obtain ⟨x, hx⟩ : ∃ x, tgtR b = x := ⟨_, rfl⟩
      rw [hx] at hR
      have HX := Lib.hid hx
      clear hx hb0
      by_cases hx0 : x = 0
      · subst hx0
        rw [if_neg (by omega)] at hR
        have HR : Hid (R = true) := Lib.hid (by rw [← hR]; rfl)
        clear hR
        go_wp2_with fail
        refine (refIs_any a hal _).mono ?_
        rintro e w' ⟨rfl, rfl⟩
        rw [HV.out]
        go_wp2_with fail
        refine (refTarget8_any b (by omega) _).mono ?_
        rintro e w2 ⟨rfl, hb2⟩
        rw [HX.out]
        have HB2 := Lib.hid (HB.out.trans (hb2.mono HB.out.size))
        clear hb2
        go_wp2_with fail
        go_ret
        exact ⟨by rw [HR.out]; rfl, HB2.out⟩
      · have e1 : ((x : Int) != 0) = true := by rw [bne_iff_ne]; omega
        have e2 : ((x : Int) == 0) = false := by rw [beq_eq_false_iff_ne]; omega
        rw [if_pos hx0] at hR
        have HR := Lib.hid hR
        clear hR hx0
        go_wp2_with fail
        refine (refIs_any a hal _).mono ?_
        rintro e w' ⟨rfl, rfl⟩
        rw [HV.out]
        go_wp2_with fail
        refine (refTarget8_any b (by omega) _).mono ?_
        rintro e w2 ⟨rfl, hb2⟩
        rw [HX.out]
        have HB2 := Lib.hid (HB.out.trans (hb2.mono HB.out.size))
        clear hb2
        go_wp2_with fail
        go_ret
        exact ⟨by rw [← HR.out]; rfl, HB2.out⟩
  · rw [if_neg (by rintro (h | ⟨h, -⟩); exact absurd h (by decide); exact absurd h (by decide))] at hR
    obtain ⟨x, hx⟩ : ∃ x, tgtR b = x := ⟨_, rfl⟩
    rw [hx] at hR
    have HX := Lib.hid hx
    clear hx
    by_cases hx0 : x = 0
    · subst hx0
      rw [if_neg (by omega)] at hR
      by_cases hc8 : c.length ≤ 8
      · have d3 : decide ((c.length : Int) ≤ 8) = true := decide_eq_true (by omega)
        have d3n : decide (c.length ≤ 8) = true := decide_eq_true hc8
        obtain ⟨m, hm⟩ : ∃ m, (verT.take c.length == c) = m := ⟨_, rfl⟩
        have hver : (ByteArray.mk #[72, 84, 84, 80, 47, 49, 46, 49]).extract 0 c.length = ⟨(verT.take c.length).toArray⟩ := qtake verT c.length
        obtain ⟨V, hV⟩ : ∃ V, verT.take c.length = V := ⟨_, rfl⟩
        rw [hV] at hver hm
        have HR : Hid (R = m) := Lib.hid (by rw [← hR, hV, hm, d3n]; rfl)
        have hc1 : (c.length : Int) ≤ 8 := by omega
        clear hR hV hc8
        go_wp2_with fail
        refine (refIs_any a hal _).mono ?_
        rintro e w' ⟨rfl, rfl⟩
        rw [HV.out]
        go_wp2_with fail
        refine (refTarget8_any b (by omega) _).mono ?_
        rintro e w2 ⟨rfl, hb2⟩
        rw [HX.out]
        have HB2 := Lib.hid (HB.out.trans (hb2.mono HB.out.size))
        clear hb2
        go_wp2_with fail
        go_ret
        exact ⟨by rw [HR.out]; rfl, HB2.out⟩
      · have d3 : decide ((c.length : Int) ≤ 8) = false := decide_eq_false (by omega)
        have d3n : decide (c.length ≤ 8) = false := decide_eq_false hc8
        have HR : Hid (R = false) := Lib.hid (by rw [← hR, d3n]; rfl)
        clear hR hc8
        go_wp2_with fail
        refine (refIs_any a hal _).mono ?_
        rintro e w' ⟨rfl, rfl⟩
        rw [HV.out]
        go_wp2_with fail
        refine (refTarget8_any b (by omega) _).mono ?_
        rintro e w2 ⟨rfl, hb2⟩
        rw [HX.out]
        have HB2 := Lib.hid (HB.out.trans (hb2.mono HB.out.size))
        clear hb2
        go_wp2_with fail
        go_ret
        exact ⟨by rw [HR.out]; rfl, HB2.out⟩
    · have e1 : ((x : Int) != 0) = true := by rw [bne_iff_ne]; omega
      have e2 : ((x : Int) == 0) = false := by rw [beq_eq_false_iff_ne]; omega
      rw [if_pos hx0] at hR
      have HR := Lib.hid hR
      clear hR hx0
      go_wp2_with fail
      refine (refIs_any a hal _).mono ?_
      rintro e w' ⟨rfl, rfl⟩
      rw [HV.out]
      go_wp2_with fail
      refine (refTarget8_any b (by omega) _).mono ?_
      rintro e w2 ⟨rfl, hb2⟩
      rw [HX.out]
      have HB2 := Lib.hid (HB.out.trans (hb2.mono HB.out.size))
      clear hb2
      go_wp2_with fail
      go_ret
      exact ⟨by rw [← HR.out]; rfl, HB2.out⟩
end Go.Proofs.YtnnldmgdojhejaaDoor
