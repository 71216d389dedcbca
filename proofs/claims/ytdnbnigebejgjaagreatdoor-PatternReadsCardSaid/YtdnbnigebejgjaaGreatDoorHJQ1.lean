/-
  The reader of package pattern: rest, fail, take, need, sees, one, for every text of at most 1000 bytes, in whatever memory of a parser.
-/
import Derived.Test.YtdnbnigebejgjaaGreatDoorHJLay
import Derived.Test.YtdnbnigebejgjaaGreatDoorHJP1
import Derived.Test.YtdnbnigebejgjaaGreatDoorHBits
import Derived.Deep.RegionWith
import Derived.Deep.DeepCutAuto
namespace Go.Proofs.YtdnbnigebejgjaaGreatDoor
open Go.RowKit
theorem jdrop (l : List UInt8) (k : Nat) : (ByteArray.mk l.toArray).extract k l.length = ⟨(l.drop k).toArray⟩ := by
  rw [ba_extract, List.take_of_length_le (Nat.le_refl _)]
theorem jwrap {x : Int} (h1 : -9223372036854775808 ≤ x) (h2 : x ≤ 9223372036854775807) : IntKind.i64.wrap x = x := by
  simp only [IntKind.wrap, IntKind.bits, IntKind.signed]
  simp
  omega
/-- Block B holds a parser that reads the text t, in the state s; x4 to x7: its tree. -/
def RD (w : World) (B : Nat) (t : List UInt8) (s : RS) (x4 x5 x6 x7 : Value) : Prop := s.k ≤ t.length ∧ t.length ≤ 1000 ∧ CBlk 64 w B [.string ⟨t.toArray⟩, .int .i64 (s.k : Int), .int .i64 (s.e : Int), .int .i64 (s.a : Int), x4, x5, x6, x7]
section
variable {w w' : World} {B : Nat} {t : List UInt8} {s : RS} {x4 x5 x6 x7 : Value}
theorem RD.le (h : RD w B t s x4 x5 x6 x7) : s.k ≤ t.length := h.1
theorem RD.len (h : RD w B t s x4 x5 x6 x7) : t.length ≤ 1000 := h.2.1
theorem RD.lt (h : RD w B t s x4 x5 x6 x7) : B < w.heap.size := CBlk.lt h.2.2
theorem RD.cells (h : RD w B t s x4 x5 x6 x7) : w.cell? ⟨B, 0, none⟩ = some (.string ⟨t.toArray⟩) ∧ w.cell? ⟨B, 1, none⟩ = some (.int .i64 (s.k : Int)) ∧ w.cell? ⟨B, 2, none⟩ = some (.int .i64 (s.e : Int)) ∧ w.cell? ⟨B, 3, none⟩ = some (.int .i64 (s.a : Int)) :=
  ⟨CBlk.cell h.2.2 0 (by simp), CBlk.cell h.2.2 1 (by simp), CBlk.cell h.2.2 2 (by simp), CBlk.cell h.2.2 3 (by simp)⟩
theorem RD.cells2 (h : RD w B t s x4 x5 x6 x7) : w.cell? ⟨B, 4, none⟩ = some x4 ∧ w.cell? ⟨B, 5, none⟩ = some x5 ∧ w.cell? ⟨B, 6, none⟩ = some x6 ∧ w.cell? ⟨B, 7, none⟩ = some x7 :=
  ⟨CBlk.cell h.2.2 4 (by simp), CBlk.cell h.2.2 5 (by simp), CBlk.cell h.2.2 6 (by simp), CBlk.cell h.2.2 7 (by simp)⟩
theorem RD.free (h : RD w B t s x4 x5 x6 x7) (i : Nat) : w.frozen? ⟨B, i, none⟩ = false := CBlk.free h.2.2 i
theorem RD.below {n : Nat} (h : RD w B t s x4 x5 x6 x7) (hb : Below n w w') (hn : B < n) : RD w' B t s x4 x5 x6 x7 := ⟨h.1, h.2.1, CBlk.below h.2.2 hb hn⟩
theorem RD.kept {row : Option Nat} (h : RD w B t s x4 x5 x6 x7) (hg : w.grownBy w' row) (hne : some B ≠ row) : RD w' B t s x4 x5 x6 x7 := ⟨h.1, h.2.1, CBlk.kept h.2.2 hg hne⟩
theorem RD.drew (h : RD w B t s x4 x5 x6 x7) : RD w.drew B t s x4 x5 x6 x7 := h
theorem RD.place (h : RD w B t s x4 x5 x6 x7) (n : Nat) (hn : n ≤ t.length) : RD (w.setCell ⟨B, 1, none⟩ (.int .i64 (n : Int))) B t ⟨n, s.e, s.a⟩ x4 x5 x6 x7 := ⟨hn, h.2.1, CBlk.set h.2.2 1 _⟩
theorem RD.fault (h : RD w B t s x4 x5 x6 x7) (e a : Nat) : RD ((w.setCell ⟨B, 2, none⟩ (.int .i64 (e : Int))).setCell ⟨B, 3, none⟩ (.int .i64 (a : Int))) B t ⟨s.k, e, a⟩ x4 x5 x6 x7 := ⟨h.1, h.2.1, (CBlk.set (CBlk.set h.2.2 2 (.int .i64 (e : Int))) 3 (.int .i64 (a : Int)))⟩
end
theorem jgrown {W W' : World} (B : Nat) (h : Below W.heap.size W W') : W.grownBy W' (some B) := ⟨h.os, h.tape, h.output, h.size, fun k hk _ => h.block k hk⟩
theorem jgset (W : World) (B i : Nat) (v : Value) : W.grownBy (W.setCell ⟨B, i, none⟩ v) (some B) :=
  ⟨rfl, rfl, rfl, by simp [World.setCell], fun k _ hne => Below.heap_setCell _ _ _ _ (fun e => hne (by rw [e]))⟩
theorem jgtrans {a b c : World} {row : Option Nat} (h : a.grownBy b row) (k : b.grownBy c row) : a.grownBy c row :=
  ⟨k.os.trans h.os, k.tape.trans h.tape, k.output.trans h.output, Nat.le_trans h.size k.size, fun i hi hr => (k.block i (Nat.lt_of_lt_of_le hi h.size) hr).trans (h.block i hi hr)⟩
theorem jgdrew {a b : World} {row : Option Nat} (h : a.grownBy b row) : a.grownBy b.drew row := ⟨h.os, h.tape, h.output, h.size, h.block⟩
theorem jgrefl (a : World) (row : Option Nat) : a.grownBy a row := ⟨rfl, rfl, rfl, Nat.le_refl _, fun _ _ _ => rfl⟩
theorem restR_len (t : List UInt8) (s : RS) : (restR t s).length ≤ t.length - s.k := by
  unfold restR
  split
  · simp
  · simp
set_option maxHeartbeats 1000000 in
theorem rest_any (t : List UInt8) (s : RS) (x4 x5 x6 x7 : Value) (W : World) (B : Nat) (h : RD W B t s x4 x5 x6 x7) :
    Calls Tryz.prog 53 #[.pointer (some ⟨B, 0, none⟩)] W fun e w' => e = .returned (.string ⟨(restR t s).toArray⟩) ∧ Below W.heap.size W w' := by
  obtain ⟨c0, c1, c2, c3⟩ := h.cells
  have g1 := jdrop t s.k
  have hb3 : (s.k : Int) ≤ (t.length : Int) := by have := h.le; omega
  by_cases he : s.e = 0
  · have HR : Hid (restR t s = t.drop s.k) := Lib.hid (if_pos he)
    have e0 : ((s.e : Int) == 0) = true := by simp [he]
    have e1 : ((s.e : Int) != 0) = false := by simp [he]
    clear he
    go_enter Tryz.func53, Tryz.ntmps53
    go_wp2_with fail
    go_region
    all_goals
      go_wp2_with fail
      go_ret
      exact ⟨by rw [HR.out]; rfl, (Below.refl _ W).drew⟩
  · have HR : Hid (restR t s = []) := Lib.hid (if_neg he)
    have e0 : ((s.e : Int) == 0) = false := by simpa using he
    have e1 : ((s.e : Int) != 0) = true := by simpa using he
    clear he
    go_enter Tryz.func53, Tryz.ntmps53
    go_wp2_with fail
    go_ret
    exact ⟨by rw [HR.out]; rfl, Below.refl _ W⟩
set_option maxHeartbeats 1000000 in
theorem fail_any (t : List UInt8) (s : RS) (x4 x5 x6 x7 : Value) (e a : Nat) (W : World) (B : Nat) (h : RD W B t s x4 x5 x6 x7) :
    Calls Tryz.prog 54 #[.pointer (some ⟨B, 0, none⟩), .int .i64 (e : Int), .int .i64 (a : Int)] W fun x w' => x = .returned (.tuple #[]) ∧ RD w' B t (failR s e a) x4 x5 x6 x7 ∧ W.grownBy w' (some B) := by
  obtain ⟨c0, c1, c2, c3⟩ := h.cells
  have f2 := h.free 2
  have f3 := h.free 3
  by_cases he : s.e = 0
  · have HR : Hid (failR s e a = ⟨s.k, e, a⟩) := Lib.hid (if_pos he)
    have e0 : ((s.e : Int) == 0) = true := by simp [he]
    clear he
    go_enter Tryz.func54, Tryz.ntmps54
    go_wp2_with fail
    refine bodyPost_end (v := .tuple #[]) (by simp [Go.results, Tryz.results54, go_sem]) rfl ⟨rfl, ?_, ?_⟩
    · rw [HR.out]; exact h.fault e a
    · exact jgtrans (jgset W B 2 _) (jgset _ B 3 _)
  · have HR : Hid (failR s e a = s) := Lib.hid (if_neg he)
    have e0 : ((s.e : Int) == 0) = false := by simpa using he
    clear he
    go_enter Tryz.func54, Tryz.ntmps54
    go_wp2_with fail
    exact bodyPost_end (v := .tuple #[]) (by simp [Go.results, Tryz.results54, go_sem]) rfl ⟨rfl, by rw [HR.out]; exact h, jgrefl _ _⟩
theorem takeB_le {t : List UInt8} {s : RS} {x : List UInt8} (h : takeB t s x = true) (hk : s.k ≤ t.length) : s.k + x.length ≤ t.length := by
  have h1 : x.length ≤ (restR t s).length := (List.isPrefixOf_iff_prefix.1 h).length_le
  have h2 := restR_len t s
  omega
set_option maxHeartbeats 1000000 in
theorem take_any (t : List UInt8) (s : RS) (x4 x5 x6 x7 : Value) (x : List UInt8) (hx : x.length ≤ 1000) (W : World) (B : Nat) (h : RD W B t s x4 x5 x6 x7) :
    Calls Tryz.prog 51 #[.pointer (some ⟨B, 0, none⟩), .string ⟨x.toArray⟩] W fun e w' => e = .returned (.bool (takeB t s x)) ∧ RD w' B t (takeR t s x) x4 x5 x6 x7 ∧ W.grownBy w' (some B) := by
  have hle := h.le
  have hlen := h.len
  obtain ⟨r, hr⟩ : ∃ r, restR t s = r := ⟨_, rfl⟩
  obtain ⟨q, hq⟩ : ∃ q, Lib.hasPrefix r x = q := ⟨_, rfl⟩
  have hT : takeB t s x = q := by unfold takeB; rw [hr, hq]
  have ww : IntKind.i64.wrap ((s.k : Int) + (x.length : Int)) = (s.k : Int) + (x.length : Int) := jwrap (by omega) (by omega)
  cases q with
  | true =>
    have HS : Hid (takeR t s x = ⟨s.k + x.length, s.e, s.a⟩) := Lib.hid (if_pos hT)
    have HL := takeB_le hT hle
    go_enter Tryz.func51, Tryz.ntmps51
    go_wp2_with fail
    refine (rest_any t s x4 x5 x6 x7 _ B h).mono ?_
    rintro e w1 ⟨rfl, hb1⟩
    rw [hr]
    have h1 := h.below hb1 h.lt
    obtain ⟨c0, c1, c2, c3⟩ := h1.cells
    have f1 := h1.free 1
    go_wp2_with fail
    refine (prefix_any r x _).mono ?_
    rintro e w2 ⟨rfl, rfl⟩
    rw [hq]
    go_wp2_with fail
    go_ret
    refine ⟨by rw [hT]; rfl, ?_, jgtrans (jgrown B hb1) (jgset _ B 1 _)⟩
    rw [HS.out]
    have := h1.place (s.k + x.length) HL
    rw [show ((s.k + x.length : Nat) : Int) = (s.k : Int) + (x.length : Int) by omega] at this
    exact this
  | false =>
    have HS : Hid (takeR t s x = s) := Lib.hid (if_neg (by rw [hT]; simp))
    go_enter Tryz.func51, Tryz.ntmps51
    go_wp2_with fail
    refine (rest_any t s x4 x5 x6 x7 _ B h).mono ?_
    rintro e w1 ⟨rfl, hb1⟩
    rw [hr]
    have h1 := h.below hb1 h.lt
    go_wp2_with fail
    refine (prefix_any r x _).mono ?_
    rintro e w2 ⟨rfl, rfl⟩
    rw [hq]
    go_wp2_with fail
    go_ret
    exact ⟨by rw [hT]; rfl, by rw [HS.out]; exact h1, jgrown B hb1⟩
set_option maxHeartbeats 1000000 in
theorem need_any (t : List UInt8) (s : RS) (x4 x5 x6 x7 : Value) (x : List UInt8) (hx : x.length ≤ 1000) (W : World) (B : Nat) (h : RD W B t s x4 x5 x6 x7) :
    Calls Tryz.prog 118 #[.pointer (some ⟨B, 0, none⟩), .string ⟨x.toArray⟩] W fun e w' => e = .returned (.tuple #[]) ∧ RD w' B t (needR t s x) x4 x5 x6 x7 ∧ W.grownBy w' (some B) := by
  obtain ⟨q, hq⟩ : ∃ q, takeB t s x = q := ⟨_, rfl⟩
  cases q with
  | true =>
    have HS : Hid (needR t s x = takeR t s x) := Lib.hid (if_pos hq)
    go_enter Tryz.func118, Tryz.ntmps118
    go_wp2_with fail
    refine (take_any t s x4 x5 x6 x7 x hx _ B h).mono ?_
    rintro e w1 ⟨rfl, h1, hb1⟩
    rw [hq]
    go_wp2_with fail
    exact bodyPost_end (v := .tuple #[]) (by simp [Go.results, Tryz.results118, go_sem]) rfl ⟨rfl, by rw [HS.out]; exact h1, hb1⟩
  | false =>
    have HS : Hid (needR t s x = failR s 3 s.k) := Lib.hid (if_neg (by rw [hq]; simp))
    have HT : Hid (takeR t s x = s) := Lib.hid (if_neg (by rw [hq]; simp))
    go_enter Tryz.func118, Tryz.ntmps118
    go_wp2_with fail
    refine (take_any t s x4 x5 x6 x7 x hx _ B h).mono ?_
    rintro e w1 ⟨rfl, h1, hb1⟩
    rw [hq]
    rw [HT.out] at h1
    obtain ⟨c0, c1, c2, c3⟩ := h1.cells
    go_wp2_with fail
    refine (fail_any t s x4 x5 x6 x7 3 s.k _ B h1).mono ?_
    rintro e w2 ⟨rfl, h2, hb2⟩
    go_wp2_with fail
    exact bodyPost_end (v := .tuple #[]) (by simp [Go.results, Tryz.results118, go_sem]) rfl ⟨rfl, by rw [HS.out]; exact h2, jgtrans hb1 hb2⟩
theorem contains_ix (chars : List UInt8) (b : UInt8) : chars.contains b = decide (0 ≤ Lib.indexByte chars b) := by
  induction chars with
  | nil => rfl
  | cons c l ih =>
    have hge := Lib.indexByte_ge l b
    rw [List.contains_cons, ih, Lib.indexByte]
    by_cases h : c = b
    · subst h; simp
    · have h2 : (b == c) = false := by simpa using fun e => h e.symm
      have h3 : (c == b) = false := by simpa using h
      rw [h2, h3, Bool.false_or]
      simp only [Bool.false_eq_true, if_false]
      by_cases hm : Lib.indexByte l b = -1
      · rw [hm]; simp
      · rw [if_neg (by simpa using hm)]
        exact decide_eq_decide.2 (by omega)
theorem seesL_cons (o : List UInt8) (c : UInt8) (r : List UInt8) : decide (Lib.indexByte o c < 0) = seesL o (c :: r) := by
  show _ = !(o.contains c)
  rw [contains_ix]
  by_cases h : 0 ≤ Lib.indexByte o c
  · rw [decide_eq_true h, decide_eq_false (by omega)]; rfl
  · rw [decide_eq_false h, decide_eq_true (by omega)]; rfl
theorem jbyte (c : UInt8) : ((c.toNat : Int)).toNat.toUInt8 = c := by simp
set_option maxHeartbeats 1000000 in
theorem sees_any (t : List UInt8) (s : RS) (x4 x5 x6 x7 : Value) (o : List UInt8) (W : World) (B : Nat) (h : RD W B t s x4 x5 x6 x7) :
    Calls Tryz.prog 91 #[.pointer (some ⟨B, 0, none⟩), .string ⟨o.toArray⟩] W fun e w' => e = .returned (.bool (seesB t s o)) ∧ Below W.heap.size W w' := by
  obtain ⟨r, hr⟩ : ∃ r, restR t s = r := ⟨_, rfl⟩
  have HT : Hid (seesB t s o = seesL o r) := Lib.hid (by unfold seesB; rw [hr])
  cases r with
  | nil =>
    go_enter Tryz.func91, Tryz.ntmps91
    go_wp2_with fail
    refine (rest_any t s x4 x5 x6 x7 _ B h).mono ?_
    rintro e w1 ⟨rfl, hb1⟩
    rw [hr]
    go_wp2_with fail
    go_ret
    exact ⟨by rw [HT.out]; rfl, hb1⟩
  | cons c r =>
    have hne : (c :: r).isEmpty = false := rfl
    have hlen : (0 : Int) < ((c :: r).length : Int) := by simp
    have g1 := ba_get (c :: r) 0 (by simp [ba_size])
    obtain ⟨q, hq⟩ : ∃ q, seesL o (c :: r) = q := ⟨_, rfl⟩
    have hd := seesL_cons o c r
    rw [hq] at hd
    obtain ⟨x, hx⟩ : ∃ x, Lib.indexByte o c = x := ⟨_, rfl⟩
    rw [hx] at hd
    have HX := Lib.hid hx
    have HQ := Lib.hid hq
    clear hx hq
    go_enter Tryz.func91, Tryz.ntmps91
    go_wp2_with fail
    refine (rest_any t s x4 x5 x6 x7 _ B h).mono ?_
    rintro e w1 ⟨rfl, hb1⟩
    rw [hr]
    clear hr
    go_wp2_with fail
    refine (indexByte_any _ _ _).mono ?_
    rintro e w2 ⟨rfl, rfl⟩
    rw [jbyte, HX.out]
    go_wp2_with fail
    go_ret
    exact ⟨by rw [HT.out, HQ.out]; rfl, hb1⟩
theorem sees_lt {t : List UInt8} {s : RS} {o : List UInt8} (h : seesB t s o = true) : s.k < t.length := by
  unfold seesB restR at h
  split at h
  · cases hd : t.drop s.k with
    | nil => rw [hd] at h; cases h
    | cons c r =>
      have := congrArg List.length hd
      rw [List.length_drop, List.length_cons] at this
      omega
  · cases h
set_option maxHeartbeats 1000000 in
theorem one_any (t : List UInt8) (s : RS) (x4 x5 x6 x7 : Value) (o : List UInt8) (W : World) (B : Nat) (h : RD W B t s x4 x5 x6 x7) :
    Calls Tryz.prog 122 #[.pointer (some ⟨B, 0, none⟩), .string ⟨o.toArray⟩] W fun e w' => e = .returned (.int .u8 ((oneV t s o).toNat : Int)) ∧ RD w' B t (oneR t s o) x4 x5 x6 x7 ∧ W.grownBy w' (some B) := by
  have hle := h.le
  have hlen := h.len
  obtain ⟨q, hq⟩ : ∃ q, seesB t s o = q := ⟨_, rfl⟩
  cases q with
  | true =>
    have HR : Hid (oneR t s o = ⟨s.k + 1, s.e, s.a⟩) := Lib.hid (if_pos hq)
    have hlt := sees_lt hq
    obtain ⟨c, hc⟩ : ∃ c, t[s.k] = c := ⟨_, rfl⟩
    have HV : Hid (oneV t s o = c) := Lib.hid (by unfold oneV; rw [if_pos hq, List.getD_eq_getElem?_getD, List.getElem?_eq_getElem hlt, hc]; rfl)
    have hx : s.k < (ByteArray.mk t.toArray).size := hlt
    have g1 := ba_get t s.k hx
    rw [hc] at g1
    have w1 : IntKind.i64.wrap ((s.k : Int) + 1) = (s.k : Int) + 1 := jwrap (by omega) (by omega)
    have w2 : IntKind.i64.wrap ((s.k : Int) + 1 - 1) = (s.k : Int) := by rw [jwrap (by omega) (by omega)]; omega
    have hb : (s.k : Int) < (t.length : Int) := by omega
    clear hc
    go_enter Tryz.func122, Tryz.ntmps122
    go_wp2_with fail
    refine (sees_any t s x4 x5 x6 x7 o _ B h).mono ?_
    rintro e w3 ⟨rfl, hb3⟩
    rw [hq]
    have h3 := h.below hb3 h.lt
    have h4 := h3.place (s.k + 1) (by omega)
    obtain ⟨c0, c1, c2, c3⟩ := h3.cells
    have f1 := h3.free 1
    clear hq
    go_upto_region 1 with fail
    obtain ⟨X, hX⟩ : ∃ X, w3.setCell ⟨B, 1, none⟩ (.int .i64 ((s.k : Int) + 1)) = X := ⟨_, rfl⟩
    have hg : w3.grownBy X (some B) := by rw [← hX]; exact jgset _ B 1 _
    rw [show ((s.k + 1 : Nat) : Int) = (s.k : Int) + 1 by omega, hX] at h4
    obtain ⟨d0, d1, d2, d3⟩ := h4.cells
    dsimp only at d1
    rw [show ((s.k + 1 : Nat) : Int) = (s.k : Int) + 1 by omega] at d1
    clear c0 c1 c2 c3
    try rw [hX]
    clear hX
    go_region
    all_goals
      go_wp2_with fail
      go_ret
      exact ⟨by rw [HV.out]; rfl, by rw [HR.out]; exact h4, jgdrew (jgtrans (jgrown B hb3) hg)⟩
  | false =>
    have HR : Hid (oneR t s o = failR s 3 s.k) := Lib.hid (if_neg (by rw [hq]; simp))
    have HV : Hid (oneV t s o = 0) := Lib.hid (if_neg (by rw [hq]; simp))
    go_enter Tryz.func122, Tryz.ntmps122
    go_wp2_with fail
    refine (sees_any t s x4 x5 x6 x7 o _ B h).mono ?_
    rintro e w3 ⟨rfl, hb3⟩
    rw [hq]
    have h3 := h.below hb3 h.lt
    obtain ⟨c0, c1, c2, c3⟩ := h3.cells
    go_wp2_with fail
    refine (fail_any t s x4 x5 x6 x7 3 s.k _ B h3).mono ?_
    rintro e w2 ⟨rfl, h2, hb2⟩
    go_wp2_with fail
    go_ret
    exact ⟨by rw [HV.out]; rfl, by rw [HR.out]; exact h2, jgtrans (jgrown B hb3) hb2⟩
end Go.Proofs.YtdnbnigebejgjaaGreatDoor
