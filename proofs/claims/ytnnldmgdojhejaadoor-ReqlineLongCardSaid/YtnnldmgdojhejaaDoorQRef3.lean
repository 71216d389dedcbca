/-
  The reference's Parse, Text and Known of lines.
-/
import Derived.Test.YtnnldmgdojhejaaDoorQRef2
import Derived.Test.YtnnldmgdojhejaaDoorCBlk
namespace Go.Proofs.YtnnldmgdojhejaaDoor
open Go.RowKit
attribute [local go_sem] ba_get
/-- The first byte such that the line up to and with it begins no request line, from a place on. -/
def fb (l : List UInt8) : Nat → Nat → Option Nat
  | 0, _ => none
  | f + 1, i => if begR (prtR (l.take (i + 1))) = true then fb l f (i + 1) else some i
def badR (l : List UInt8) : Option Nat := fb l l.length 0
/-- What Parse answers: the request line, the status and the place. -/
def prsR (l : List UInt8) : (List UInt8 × List UInt8) × Nat × Nat :=
  if (lngR l).1 ≠ 0 then (([], []), lngR l)
  else match badR l with
    | some i => (([], []), 400, i)
    | none => if (prtR l).2.2.1 = verT then (((prtR l).1, (prtR l).2.1), 0, l.length) else (([], []), 400, l.length)
def rlV (r : List UInt8 × List UInt8) : Value := .agg #[.string ⟨r.1.toArray⟩, .string ⟨r.2.toArray⟩]
def prsW (p : (List UInt8 × List UInt8) × Nat × Nat) : Value := .tuple #[rlV p.1, .int .i64 (p.2.1 : Int), .int .i64 (p.2.2 : Int)]
theorem qcells2 {t : TypeId} {w : World} {B : Nat} {a b : Value} (h : CBlk t w B [a, b]) : w.cell? ⟨B, 0, none⟩ = some a ∧ w.cell? ⟨B, 1, none⟩ = some b := ⟨h.cell 0 (by simp), h.cell 1 (by simp)⟩
theorem qstore2 {t : TypeId} {w : World} {B : Nat} {a b : Value} (h : CBlk t w B [a, b]) (x y : Value) : CBlk t ((w.setCell ⟨B, 0, none⟩ x).setCell ⟨B, 1, none⟩ y) B [x, y] := (h.set 0 x).set 1 y
theorem rl_result {w : World} {B : Nat} {a b : Value} (h1 : CBlk 29 w B [a, b]) {fn : Func} {p q r : Tmp} (h : fn.results = #[.cell p 29, .tmp q, .tmp r]) (tmps : Array Value) (x y : Value)
    (hp : tmps.getD p undef = .pointer (some ⟨B, 0, none⟩)) (hq : tmps.getD q undef = x) (hr : tmps.getD r undef = y) : (Go.results fn tmps).run Tryd.prog w = .ok (.tuple #[.agg #[a, b], x, y]) w := by
  have hp' : tmps[p]?.getD undef = .pointer (some ⟨B, 0, none⟩) := by simpa using hp
  have hq' : tmps[q]?.getD undef = x := by simpa using hq
  have hr' : tmps[r]?.getD undef = y := by simpa using hr
  obtain ⟨c0, c1⟩ := qcells2 h1
  simp [Go.results, h, hp', hq', hr', asAddr, go_sem, c0, c1]
theorem qbelow2 {n : Nat} {w W : World} {B : Nat} (hB : Below n w W) (h : n ≤ B) (x y : Value) : Below n w ((W.setCell ⟨B, 0, none⟩ x).setCell ⟨B, 1, none⟩ y) := (hB.setCell (p := ⟨B, 0, none⟩) h x).setCell (p := ⟨B, 1, none⟩) h y
set_option maxRecDepth 100000 in
set_option maxHeartbeats 8000000 in
theorem refParse8_any (l : List UInt8) (hl : l.length < 100000000000000) (w : World) :
    Calls Tryd.prog 14 #[.string ⟨l.toArray⟩] w fun e w' => e = .returned (prsW (prsR l)) ∧ Below w.heap.size w w' := by
  obtain ⟨R, hR⟩ : ∃ R, prsR l = R := ⟨_, rfl⟩
  rw [hR]
  unfold prsR at hR
  obtain ⟨⟨st, at'⟩, hL⟩ : ∃ L, lngR l = L := ⟨_, rfl⟩
  rw [hL] at hR
  dsimp only at hR
  have HL := Lib.hid hL
  obtain ⟨W0, hW0⟩ : ∃ W0, w.alloc (.cells #[.string ⟨#[]⟩, .string ⟨#[]⟩] 29) = W0 := ⟨_, rfl⟩
  have HB0 : Hid (Below w.heap.size w W0) := Lib.hid (by rw [← hW0]; exact (Below.refl _ _).alloc (Nat.le_refl _) _)
  have HZ0 : Hid (CBlk 29 W0 w.heap.size [.string ⟨#[]⟩, .string ⟨#[]⟩]) := Lib.hid (by rw [← hW0]; exact CBlk.new _ w _)
  clear hL
  go_enter Tryd.func14, Tryd.ntmps14
  go_upto_region 1 with fail
  clear hW0
  go_wp2_with fail
  refine (refLong_any l hl _).mono ?_
  rintro e w1 ⟨rfl, hb⟩
  rw [HL.out]
  unfold lngW
  dsimp only
  have HB := Lib.hid (HB0.out.trans (hb.mono HB0.out.size))
  have hz := HZ0.out.below hb HZ0.out.lt
  obtain ⟨z0, z1⟩ := qcells2 hz
  have f0 := hz.free 0
  have f1 := hz.free 1
  have HZ := Lib.hid hz
  clear hb hz HB0 HZ0
  by_cases hst : st = 0
  · subst hst
    rw [if_neg (by omega)] at hR
    obtain ⟨q, hq⟩ : ∃ q, badR l = q := ⟨_, rfl⟩
    rw [hq] at hR
    have H0 : Hid (fb l l.length 0 = q) := Lib.hid hq
    have HR := Lib.hid hR
    clear hq hR
    rw [show ((0 : Nat) : Int) = 0 from rfl]
    go_wp2_with fail
    go_loopw [7] (fun i wr => ∃ k : Nat, k ≤ l.length ∧ i = .int .i64 k ∧ Hid (fb l (l.length - k) k = q) ∧ Hid (Below w.heap.size w wr) ∧ Hid (CBlk 29 wr w.heap.size [.string ⟨#[]⟩, .string ⟨#[]⟩])) (fun i _ => l.length - (intOf i).toNat)
    case atStart => exact ⟨0, Nat.zero_le _, rfl, H0, HB, HZ⟩
    case round =>
      clear H0 HB HZ z0 z1 f0 f1
      obtain ⟨k, hk, rfl, hp, HB, HZ⟩ := hrel
      rename World => W
      obtain ⟨z0, z1⟩ := qcells2 HZ.out
      have f0 := HZ.out.free 0
      have f1 := HZ.out.free 1
      by_cases hlt : k < l.length
      · have h1 : decide ((k : Int) < (l.length : Int)) = true := decide_eq_true (by omega)
        have hb2 : (k : Int) < (l.length : Int) := by omega
        have hat : fb l (l.length - k) k = if begR (prtR (l.take (k + 1))) = true then fb l (l.length - (k + 1)) (k + 1) else some k := by
          rw [show l.length - k = (l.length - (k + 1)) + 1 by omega]
          rfl
        have w1' : IntKind.i64.wrap ((k : Int) + 1) = (k : Int) + 1 := qwrap (by omega) (by omega)
        have hk1 : (k : Int) + 1 ≤ (l.length : Int) := by omega
        have hk2 : ((k : Int) + 1).toNat = k + 1 := by omega
        have hcut := qtake l (k + 1)
        obtain ⟨X, hX⟩ : ∃ X, l.take (k + 1) = X := ⟨_, rfl⟩
        have hXl : X.length < 100000000000000 := by rw [← hX, List.length_take]; omega
        rw [hX] at hat hcut
        obtain ⟨b, hb⟩ : ∃ b, begR (prtR X) = b := ⟨_, rfl⟩
        rw [hb] at hat
        have HBG := Lib.hid hb
        clear hb hX
        cases b
        · have hq' : Hid (q = some k) := Lib.hid (by rw [← hp.out, hat]; rfl)
          have hr' : Hid (R = (([], []), 400, k)) := Lib.hid (by rw [← HR.out, hq'.out])
          clear hat
          go_wp2_with fail
          refine (refBegins_any X hXl _).mono ?_
          rintro e w2 ⟨rfl, hb⟩
          rw [HBG.out]
          have HB2 := Lib.hid (HB.out.trans (hb.mono HB.out.size))
          have hz := HZ.out.below hb HZ.out.lt
          obtain ⟨z0, z1⟩ := qcells2 hz
          have f0 := hz.free 0
          have f1 := hz.free 1
          have HZ2 := Lib.hid hz
          clear hb hz
          go_wp2_with fail
          exact bodyPost_ret (rl_result (qstore2 HZ2.out _ _) rfl _ _ _ rfl rfl rfl) rfl ⟨by rw [hr'.out]; rfl, qbelow2 HB2.out (Nat.le_refl _) _ _⟩
        · have hnext : Hid (fb l (l.length - (k + 1)) (k + 1) = q) := Lib.hid (by rw [← hp.out, hat]; rfl)
          clear hat
          go_wp2_with fail
          refine (refBegins_any X hXl _).mono ?_
          rintro e w2 ⟨rfl, hb⟩
          rw [HBG.out]
          have HB2 := Lib.hid (HB.out.trans (hb.mono HB.out.size))
          have HZ2 := Lib.hid (HZ.out.below hb HZ.out.lt)
          clear hb
          go_wp2_with fail
          go_roundw
          case rel => exact ⟨k + 1, by omega, by go_num, hnext, HB2, HZ2⟩
          case measure => simp [intOf]; omega
      · have h1 : decide ((k : Int) < (l.length : Int)) = false := decide_eq_false (by omega)
        obtain rfl : k = l.length := by omega
        have hq' : Hid (q = none) := Lib.hid (by rw [← hp.out, Nat.sub_self]; rfl)
        have hR2 := HR.out
        rw [hq'.out] at hR2
        dsimp only at hR2
        obtain ⟨⟨a, b, c, m⟩, hpt⟩ : ∃ p, prtR l = p := ⟨_, rfl⟩
        rw [hpt] at hR2
        dsimp only at hR2
        have HPT := Lib.hid hpt
        clear hpt hp
        obtain ⟨v, hv⟩ : ∃ v, (c == verT) = v := ⟨_, rfl⟩
        have hvn : (c != [72, 84, 84, 80, 47, 49, 46, 49]) = !v := by rw [← hv]; rfl
        have hve : (c == [72, 84, 84, 80, 47, 49, 46, 49]) = v := hv
        go_wp2_with fail
        refine (refParts8_any l hl _).mono ?_
        rintro e w2 ⟨rfl, hb⟩
        rw [HPT.out]
        unfold prtW
        dsimp only
        have HB2 := Lib.hid (HB.out.trans (hb.mono HB.out.size))
        have hz := HZ.out.below hb HZ.out.lt
        obtain ⟨z0, z1⟩ := qcells2 hz
        have f0 := hz.free 0
        have f1 := hz.free 1
        have HZ2 := Lib.hid hz
        clear hb hz
        cases v
        · have hr' : Hid (R = (([], []), 400, l.length)) := Lib.hid (by rw [← hR2, if_neg (by rw [beq_eq_false_iff_ne] at hv; exact hv)])
          clear hR2 hv
          go_wp2_with fail
          exact bodyPost_ret (rl_result (qstore2 HZ2.out _ _) rfl _ _ _ rfl rfl rfl) rfl ⟨by rw [hr'.out]; rfl, qbelow2 HB2.out (Nat.le_refl _) _ _⟩
        · have hr' : Hid (R = ((a, b), 0, l.length)) := Lib.hid (by rw [← hR2, if_pos (by rw [beq_iff_eq] at hv; exact hv)])
          clear hR2 hv
          go_wp2_with fail
          exact bodyPost_ret (rl_result (qstore2 HZ2.out _ _) rfl _ _ _ rfl rfl rfl) rfl ⟨by rw [hr'.out]; rfl, qbelow2 HB2.out (Nat.le_refl _) _ _⟩
  · have e1 : ((st : Int) != 0) = true := by rw [bne_iff_ne]; omega
    have e2 : ((st : Int) == 0) = false := by rw [beq_eq_false_iff_ne]; omega
    rw [if_pos hst] at hR
    have HR := Lib.hid hR
    clear hst hR
    go_wp2_with fail
    exact bodyPost_ret (rl_result (qstore2 HZ.out _ _) rfl _ _ _ rfl rfl rfl) rfl ⟨by rw [← HR.out]; rfl, qbelow2 HB.out (Nat.le_refl _) _ _⟩
/-- What Text answers. -/
def txtR (m t : List UInt8) : List UInt8 × Nat := if 16 < m.length ∨ isV m = false then ([], 11) else if tgtR t ≠ 0 then ([], tgtR t) else (m ++ [32] ++ t ++ [32] ++ verT, 0)
def txtW (p : List UInt8 × Nat) : Value := .tuple #[.string ⟨p.1.toArray⟩, .int .i64 (p.2 : Int)]
theorem qadd {P : Program} {w : World} (a b : List UInt8) (h : a.length + b.length ≤ 9223372036854775807) : (Op.stringOp .add ⟨a.toArray⟩ ⟨b.toArray⟩).run P w = .ok (.string ⟨(a ++ b).toArray⟩) w := by
  have e : ByteArray.mk a.toArray ++ ByteArray.mk b.toArray = ⟨(a ++ b).toArray⟩ := by
    apply ByteArray.ext
    rw [ByteArray.data_append]
    simp
  rw [← e]
  exact run_string_add_sum _ _ _ h
end Go.Proofs.YtnnldmgdojhejaaDoor
