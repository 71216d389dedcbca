/-
  The reference's has, good, line, New and Check of splitters.
-/
import Derived.Test.YtfagjhadfonhdaaCBlk
import Derived.IntWalk
import Derived.Lib.Hide
import Derived.Deep.DeepCutAuto
import Derived.Laws.DeepStrings4
namespace Go.Proofs.Ytfagjhadfonhdaa
open Go.RowKit
theorem lba_get (l : List UInt8) (i : Nat) (h : i < (ByteArray.mk l.toArray).size) : (ByteArray.mk l.toArray)[i]'h = l[i]'h := rfl
attribute [local go_sem] lba_get
theorem lba_take (l : List UInt8) (k : Nat) : (ByteArray.mk l.toArray).extract 0 k = ⟨(l.take k).toArray⟩ := by
  apply ByteArray.ext
  rw [ByteArray.data_extract, List.extract_toArray, List.extract_eq_take_drop]
  simp
theorem lba_drop (l : List UInt8) (k : Nat) : (ByteArray.mk l.toArray).extract k l.length = ⟨(l.drop k).toArray⟩ := by
  apply ByteArray.ext
  rw [ByteArray.data_extract, List.extract_toArray, List.extract_eq_take_drop]
  simp [List.take_of_length_le]
theorem lba_one (l : List UInt8) (k : Nat) (h : k < l.length) : (ByteArray.mk l.toArray).extract k (k + 1) = ⟨[l[k]].toArray⟩ := by
  apply ByteArray.ext
  rw [ByteArray.data_extract, List.extract_toArray, List.extract_eq_take_drop, Nat.add_sub_cancel_left, List.drop_eq_getElem_cons h]
  rfl
/-- A splitter. -/
structure Sp where
  lim : Int
  txt : List UInt8
  lg : Bool
deriving DecidableEq
/-- A line. -/
structure Ln where
  tx : List UInt8
  gd : Bool
deriving DecidableEq
def spV (s : Sp) : Value := .agg #[.int .i64 s.lim, .string ⟨s.txt.toArray⟩, .bool s.lg]
def lnV (x : Ln) : Value := .agg #[.string ⟨x.tx.toArray⟩, .bool x.gd]
def spC (s : Sp) : List Value := [.int .i64 s.lim, .string ⟨s.txt.toArray⟩, .bool s.lg]
/-- A text has the byte n. -/
def hasN (l : List UInt8) (n : Nat) : Bool := l.any fun c => c.toNat == n
theorem hasN_drop {l : List UInt8} {k : Nat} (h : k < l.length) (n : Nat) : hasN (l.drop k) n = ((l[k]).toNat == n || hasN (l.drop (k + 1)) n) := by
  unfold hasN
  rw [List.drop_eq_getElem_cons h, List.any_cons]
set_option maxHeartbeats 1000000 in
theorem refHas_any (l : List UInt8) (hl : l.length < 200000000000000) (n : Nat) (w : World) :
    Calls Try.prog 41 #[.string ⟨l.toArray⟩, .int .u8 (n : Int)] w fun e w' => e = .returned (.bool (hasN l n)) ∧ w = w' := by
  obtain ⟨R, hR⟩ : ∃ R, hasN l n = R := ⟨_, rfl⟩
  rw [hR]
  have HR := Lib.hid hR
  clear hR
  go_enter Try.func41, Try.ntmps41
  go_wp2_with fail
  go_loopw [5] (fun i wr => ∃ k : Nat, k ≤ l.length ∧ i = .int .i64 k ∧ Hid (hasN (l.drop k) n = R) ∧ wr = w) (fun i _ => l.length - (intOf i).toNat)
  case atStart => exact ⟨0, Nat.zero_le _, rfl, Lib.hid (by rw [List.drop_zero, HR.out]), rfl⟩
  case round =>
    obtain ⟨k, hk, rfl, hp, rfl⟩ := hrel
    by_cases hlt : k < l.length
    · have h1 : decide ((k : Int) < (l.length : Int)) = true := decide_eq_true (by omega)
      have hb2 : (k : Int) < (l.length : Int) := by omega
      have hat := hasN_drop hlt n
      obtain ⟨y, hy⟩ : ∃ y, (l[k]).toNat = y := ⟨_, rfl⟩
      rw [hy] at hat
      by_cases he : y = n
      · have q1 : ((y : Int) == (n : Int)) = true := by rw [beq_iff_eq]; omega
        have hres : Hid (R = true) := Lib.hid (by rw [← hp.out, hat, he, beq_self_eq_true]; rfl)
        clear hat he
        go_wp2_with fail
        go_ret
        exact ⟨by rw [hres.out]; rfl, rfl⟩
      · have q1 : ((y : Int) == (n : Int)) = false := by rw [beq_eq_false_iff_ne]; omega
        have hnext : Hid (hasN (l.drop (k + 1)) n = R) := Lib.hid (by rw [← hp.out, hat, beq_eq_false_iff_ne.2 he]; rfl)
        clear hat he
        go_wp2_with fail
        go_roundw
        case rel => exact ⟨k + 1, by omega, by go_num, hnext, trivial⟩
        case measure => simp [intOf]; omega
    · have h1 : decide ((k : Int) < (l.length : Int)) = false := decide_eq_false (by omega)
      have hres : Hid (R = false) := Lib.hid (by rw [← hp.out, List.drop_eq_nil_of_le (by omega)]; rfl)
      go_wp2_with fail
      go_ret
      exact ⟨by rw [hres.out]; rfl, rfl⟩
/-- A text of a line that is Good. -/
def goodB (l : List UInt8) : Bool := !hasN l 13 && !hasN l 0 && !hasN l 10
set_option maxHeartbeats 1000000 in
theorem refGood_any (l : List UInt8) (hl : l.length < 200000000000000) (w : World) :
    Calls Try.prog 43 #[.string ⟨l.toArray⟩] w fun e w' => e = .returned (.bool (goodB l)) ∧ w = w' := by
  obtain ⟨a, ha⟩ : ∃ a, hasN l 13 = a := ⟨_, rfl⟩
  obtain ⟨b, hb⟩ : ∃ b, hasN l 0 = b := ⟨_, rfl⟩
  obtain ⟨c, hc⟩ : ∃ c, hasN l 10 = c := ⟨_, rfl⟩
  have HV : Hid (goodB l = (!a && !b && !c)) := Lib.hid (by unfold goodB; rw [ha, hb, hc])
  have HA := Lib.hid ha
  have HB := Lib.hid hb
  have HC := Lib.hid hc
  clear ha hb hc
  cases a
  · cases b
    · go_enter Try.func43, Try.ntmps43
      go_wp2_with fail
      refine (refHas_any l hl 13 _).mono ?_
      rintro e w' ⟨rfl, rfl⟩
      rw [HA.out]
      go_wp2_with fail
      refine (refHas_any l hl 0 _).mono ?_
      rintro e w' ⟨rfl, rfl⟩
      rw [HB.out]
      go_wp2_with fail
      refine (refHas_any l hl 10 _).mono ?_
      rintro e w' ⟨rfl, rfl⟩
      rw [HC.out]
      go_wp2_with fail
      go_ret
      exact ⟨by rw [HV.out]; rfl, rfl⟩
    · go_enter Try.func43, Try.ntmps43
      go_wp2_with fail
      refine (refHas_any l hl 13 _).mono ?_
      rintro e w' ⟨rfl, rfl⟩
      rw [HA.out]
      go_wp2_with fail
      refine (refHas_any l hl 0 _).mono ?_
      rintro e w' ⟨rfl, rfl⟩
      rw [HB.out]
      go_wp2_with fail
      go_ret
      exact ⟨by rw [HV.out]; rfl, rfl⟩
  · go_enter Try.func43, Try.ntmps43
    go_wp2_with fail
    refine (refHas_any l hl 13 _).mono ?_
    rintro e w' ⟨rfl, rfl⟩
    rw [HA.out]
    go_wp2_with fail
    go_ret
    exact ⟨by rw [HV.out]; rfl, rfl⟩
/-- The line that consists of the bytes before a line feed. -/
def lineR (l : List UInt8) : Ln := if l.getLast? = some 13 then ⟨l.take (l.length - 1), goodB (l.take (l.length - 1))⟩ else ⟨l, false⟩
theorem ln_result {w : World} {B : Nat} {a b : Value} (h1 : CBlk 27 w B [a, b]) {fn : Func} {p : Tmp} (h : fn.results = #[.cell p 27]) (tmps : Array Value)
    (hp : tmps.getD p undef = .pointer (some ⟨B, 0, none⟩)) : (Go.results fn tmps).run Try.prog w = .ok (.agg #[a, b]) w := by
  have hp' : tmps[p]?.getD undef = .pointer (some ⟨B, 0, none⟩) := by simpa using hp
  have c0 := h1.cell 0 (by simp)
  have c1 := h1.cell 1 (by simp)
  dsimp only [List.getElem_cons_zero, List.getElem_cons_succ] at c0 c1
  simp [Go.results, h, hp', asAddr, go_sem, c0, c1]
theorem CBlk.store2 {t : TypeId} {w : World} {B : Nat} {cs : List Value} (h : CBlk t w B cs) (hl : cs.length = 2) (a b : Value) : CBlk t ((w.setCell ⟨B, 0, none⟩ a).setCell ⟨B, 1, none⟩ b) B [a, b] := by
  have := (h.set 0 a).set 1 b
  match cs, hl with
  | [x, y], _ => exact this
theorem below_store2 {w wr : World} {B n : Nat} (hB : Below n w wr) (h : n ≤ B) (u v : Value) : Below n w ((wr.setCell ⟨B, 0, none⟩ u).setCell ⟨B, 1, none⟩ v) := (hB.setCell (p := ⟨B, 0, none⟩) h _).setCell (p := ⟨B, 1, none⟩) h _
theorem last_at {l : List UInt8} (h : 0 < l.length) : l.getLast? = some (l[l.length - 1]'(by omega)) := by
  rw [List.getLast?_eq_getElem?, List.getElem?_eq_getElem]
set_option maxHeartbeats 1000000 in
theorem refLine7_any (l : List UInt8) (hl : l.length < 200000000000000) (w : World) :
    Calls Try.prog 42 #[.string ⟨l.toArray⟩] w fun e w' => e = .returned (lnV (lineR l)) ∧ Below w.heap.size w w' := by
  have hz := CBlk.new 27 w [.string ⟨#[]⟩, .bool false]
  have hB := (Below.refl w.heap.size w).alloc (Nat.le_refl _) (.cells #[.string ⟨#[]⟩, .bool false] 27)
  by_cases h0 : l = []
  · subst h0
    go_enter Try.func42, Try.ntmps42
    go_wp2_with fail
    exact bodyPost_ret (ln_result hz rfl _ rfl) rfl ⟨rfl, hB⟩
  · have hpos : 0 < l.length := List.length_pos_iff.2 h0
    have hne : l.isEmpty = false := by
      cases l with
      | nil => exact absurd rfl h0
      | cons c r => rfl
    have hat := last_at hpos
    have e1 : ((l.length : Int) - 1).toNat = l.length - 1 := by omega
    have e2 : IntKind.i64.wrap ((l.length : Int) - 1) = (l.length : Int) - 1 := by
      simp only [IntKind.wrap, IntKind.bits, IntKind.signed]
      simp
      omega
    have e3 : (0 : Int) ≤ (l.length : Int) - 1 := by omega
    have e4 : (l.length : Int) - 1 < (l.length : Int) := by omega
    have e5 : (l.length : Int) - 1 ≤ (l.length : Int) := by omega
    obtain ⟨y, hy⟩ : ∃ y, (l[l.length - 1]'(by omega)).toNat = y := ⟨_, rfl⟩
    have hlt := Nat.sub_lt hpos Nat.one_pos
    by_cases h13 : y = 13
    · have q1 : ((y : Int) == 13) = true := by rw [beq_iff_eq]; omega
      have HV : Hid (lineR l = ⟨l.take (l.length - 1), goodB (l.take (l.length - 1))⟩) := Lib.hid (by
        unfold lineR
        rw [hat, if_pos]
        rw [Option.some.injEq]
        apply UInt8.toNat_inj.1
        rw [hy, h13]
        rfl)
      obtain ⟨t, ht⟩ : ∃ t, l.take (l.length - 1) = t := ⟨_, rfl⟩
      have hex : (ByteArray.mk l.toArray).extract 0 (l.length - 1) = ⟨t.toArray⟩ := by rw [lba_take, ht]
      rw [ht] at HV
      have htl : t.length < 200000000000000 := by rw [← ht, List.length_take]; omega
      clear hat h13 h0 ht
      go_enter Try.func42, Try.ntmps42
      go_wp2_with fail
      refine (refGood_any t htl _).mono ?_
      rintro e w' ⟨rfl, rfl⟩
      go_wp2_with fail
      exact bodyPost_ret (ln_result (CBlk.new _ w _) rfl _ rfl) rfl ⟨by rw [HV.out]; rfl, (Below.refl _ _).alloc (Nat.le_refl _) _⟩
    · have q1 : ((y : Int) == 13) = false := by rw [beq_eq_false_iff_ne]; omega
      have HV : Hid (lineR l = ⟨l, false⟩) := Lib.hid (by
        unfold lineR
        rw [hat, if_neg]
        rw [Option.some.injEq]
        intro h
        apply h13
        rw [← hy, h]
        rfl)
      clear hat h13 h0
      go_enter Try.func42, Try.ntmps42
      go_wp2_with fail
      exact bodyPost_ret (ln_result (CBlk.new _ w _) rfl _ rfl) rfl ⟨by rw [HV.out]; rfl, (Below.refl _ _).alloc (Nat.le_refl _) _⟩
/-- What New answers. -/
def newR (n : Int) : Sp × Nat := if n < 1 ∨ 1536 < n then (⟨0, [], false⟩, 2) else (⟨n, [], false⟩, 0)
def newV (n : Int) : Value := .tuple #[spV (newR n).1, .int .i64 ((newR n).2 : Nat)]
theorem CBlk.cells3 {t : TypeId} {w : World} {B : Nat} {a b c : Value} (h : CBlk t w B [a, b, c]) : w.cell? ⟨B, 0, none⟩ = some a ∧ w.cell? ⟨B, 1, none⟩ = some b ∧ w.cell? ⟨B, 2, none⟩ = some c := ⟨h.cell 0 (by simp), h.cell 1 (by simp), h.cell 2 (by simp)⟩
theorem sp_result1 {w : World} {B : Nat} {a b c : Value} (h1 : CBlk 24 w B [a, b, c]) {fn : Func} {p q : Tmp} (h : fn.results = #[.cell p 24, .tmp q]) (tmps : Array Value) (e : Value)
    (hp : tmps.getD p undef = .pointer (some ⟨B, 0, none⟩)) (hq : tmps.getD q undef = e) : (Go.results fn tmps).run Try.prog w = .ok (.tuple #[.agg #[a, b, c], e]) w := by
  have hp' : tmps[p]?.getD undef = .pointer (some ⟨B, 0, none⟩) := by simpa using hp
  have hq' : tmps[q]?.getD undef = e := by simpa using hq
  obtain ⟨c0, c1, c2⟩ := h1.cells3
  simp [Go.results, h, hp', hq', asAddr, go_sem, c0, c1, c2]
theorem CBlk.store3 {t : TypeId} {w : World} {B : Nat} {cs : List Value} (h : CBlk t w B cs) (hl : cs.length = 3) (a b c : Value) : CBlk t (((w.setCell ⟨B, 0, none⟩ a).setCell ⟨B, 1, none⟩ b).setCell ⟨B, 2, none⟩ c) B [a, b, c] := by
  have := ((h.set 0 a).set 1 b).set 2 c
  match cs, hl with
  | [x, y, z], _ => exact this
theorem below_store3 {w wr : World} {B n : Nat} (hB : Below n w wr) (h : n ≤ B) (u v x : Value) : Below n w (((wr.setCell ⟨B, 0, none⟩ u).setCell ⟨B, 1, none⟩ v).setCell ⟨B, 2, none⟩ x) := ((hB.setCell (p := ⟨B, 0, none⟩) h _).setCell (p := ⟨B, 1, none⟩) h _).setCell (p := ⟨B, 2, none⟩) h _
set_option maxHeartbeats 1000000 in
theorem refNew_any (n : Int) (w : World) :
    Calls Try.prog 20 #[.int .i64 n] w fun e w' => e = .returned (newV n) ∧ Below w.heap.size w w' := by
  have hz := CBlk.new 24 w [.int .i64 0, .string ⟨#[]⟩, .bool false]
  have hB := (Below.refl w.heap.size w).alloc (Nat.le_refl _) (.cells #[.int .i64 0, .string ⟨#[]⟩, .bool false] 24)
  by_cases h1 : n < 1
  · have d1 : decide (n < 1) = true := decide_eq_true h1
    have HV : Hid (newR n = (⟨0, [], false⟩, 2)) := Lib.hid (if_pos (Or.inl h1))
    clear h1
    go_enter Try.func20, Try.ntmps20
    go_wp2_with fail
    exact bodyPost_ret (sp_result1 hz rfl _ _ rfl rfl) rfl ⟨by unfold newV; rw [HV.out]; rfl, hB⟩
  · have d1 : decide (n < 1) = false := decide_eq_false h1
    by_cases h2 : 1536 < n
    · have d2 : decide (1536 < n) = true := decide_eq_true h2
      have HV : Hid (newR n = (⟨0, [], false⟩, 2)) := Lib.hid (if_pos (Or.inr h2))
      clear h1 h2
      go_enter Try.func20, Try.ntmps20
      go_wp2_with fail
      exact bodyPost_ret (sp_result1 hz rfl _ _ rfl rfl) rfl ⟨by unfold newV; rw [HV.out]; rfl, hB⟩
    · have d2 : decide (1536 < n) = false := decide_eq_false h2
      have HV : Hid (newR n = (⟨n, [], false⟩, 0)) := Lib.hid (if_neg (by omega))
      clear h1 h2
      go_enter Try.func20, Try.ntmps20
      go_wp2_with fail
      exact bodyPost_ret (sp_result1 (CBlk.new _ w _) rfl _ _ rfl rfl) rfl ⟨by unfold newV; rw [HV.out]; rfl, (Below.refl _ _).alloc (Nat.le_refl _) _⟩
/-- What Check answers. -/
def chkS (s : Sp) : Nat := if s.lim < 1 ∨ 1536 < s.lim then 2 else if s.lim < (s.txt.length : Int) then 4 else if (hasN s.txt 10 || (s.lg && !s.txt.isEmpty)) = true then 3 else 0
end Go.Proofs.Ytfagjhadfonhdaa
