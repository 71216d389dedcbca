/-
  The reference's Check of splitters; what One answers.
-/
import Derived.Test.YtfagjhadfonhdaaLRef1
namespace Go.Proofs.Ytfagjhadfonhdaa
open Go.RowKit
attribute [local go_sem] lba_get
theorem len_pos_empty {t : List UInt8} (h : t ≠ []) : t.isEmpty = false := by
  cases t with
  | nil => exact absurd rfl h
  | cons c r => rfl
set_option maxRecDepth 100000 in
set_option maxHeartbeats 2000000 in
theorem refCheckS_any (s : Sp) (hl : s.txt.length < 200000000000000) (w : World) :
    Calls Try.prog 22 #[spV s] w fun e w' => e = .returned (.int .i64 (chkS s : Nat)) ∧ Below w.heap.size w w' := by
  obtain ⟨n, t, g⟩ := s
  dsimp only at hl
  have hB := (Below.refl w.heap.size w).alloc (Nat.le_refl _) (.cells #[.int .i64 n, .string ⟨t.toArray⟩, .bool g] 24)
  by_cases h1 : n < 1
  · have d1 : decide (n < 1) = true := decide_eq_true h1
    have HV : Hid (chkS ⟨n, t, g⟩ = 2) := Lib.hid (if_pos (Or.inl h1))
    clear h1
    unfold spV
    go_enter Try.func22, Try.ntmps22
    go_wp2_with fail
    go_ret
    exact ⟨by rw [HV.out]; rfl, hB⟩
  have d1 : decide (n < 1) = false := decide_eq_false h1
  by_cases h2 : 1536 < n
  · have d2 : decide (1536 < n) = true := decide_eq_true h2
    have HV : Hid (chkS ⟨n, t, g⟩ = 2) := Lib.hid (if_pos (Or.inr h2))
    clear h1 h2
    unfold spV
    go_enter Try.func22, Try.ntmps22
    go_wp2_with fail
    go_ret
    exact ⟨by rw [HV.out]; rfl, hB⟩
  have d2 : decide (1536 < n) = false := decide_eq_false h2
  have h12 : ¬ (n < 1 ∨ 1536 < n) := by omega
  clear h1 h2
  by_cases h3 : n < (t.length : Int)
  · have d3 : decide (n < (t.length : Int)) = true := decide_eq_true h3
    have HV : Hid (chkS ⟨n, t, g⟩ = 4) := Lib.hid (by unfold chkS; rw [if_neg h12, if_pos h3])
    clear h3 h12
    unfold spV
    go_enter Try.func22, Try.ntmps22
    go_wp2_with fail
    go_ret
    exact ⟨by rw [HV.out]; rfl, hB⟩
  have d3 : decide (n < (t.length : Int)) = false := decide_eq_false h3
  have HV : Hid (chkS ⟨n, t, g⟩ = if (hasN t 10 || (g && !t.isEmpty)) = true then 3 else 0) := Lib.hid (by unfold chkS; rw [if_neg h12, if_neg h3])
  clear h3 h12
  obtain ⟨q, hq⟩ : ∃ q, hasN t 10 = q := ⟨_, rfl⟩
  have HQ := Lib.hid hq
  rw [hq] at HV
  clear hq
  cases q
  · cases g
    · unfold spV
      go_enter Try.func22, Try.ntmps22
      go_wp2_with fail
      refine (refHas_any t hl 10 _).mono ?_
      rintro e w' ⟨rfl, rfl⟩
      rw [HQ.out]
      go_wp2_with fail
      go_ret
      exact ⟨by rw [HV.out]; rfl, hB⟩
    · by_cases h0 : t = []
      · subst h0
        have d4 : decide (n < 0) = false := d3
        unfold spV
        go_enter Try.func22, Try.ntmps22
        go_wp2_with fail
        refine (refHas_any [] hl 10 _).mono ?_
        rintro e w' ⟨rfl, rfl⟩
        rw [HQ.out]
        go_wp2_with fail
        go_ret
        exact ⟨by rw [HV.out]; rfl, hB⟩
      · have hne := len_pos_empty h0
        have HV2 : Hid (chkS ⟨n, t, true⟩ = 3) := Lib.hid (by rw [HV.out, hne]; rfl)
        clear h0 HV
        unfold spV
        go_enter Try.func22, Try.ntmps22
        go_wp2_with fail
        refine (refHas_any t hl 10 _).mono ?_
        rintro e w' ⟨rfl, rfl⟩
        rw [HQ.out]
        go_wp2_with fail
        go_ret
        exact ⟨by rw [HV2.out]; rfl, hB⟩
  · unfold spV
    go_enter Try.func22, Try.ntmps22
    go_wp2_with fail
    refine (refHas_any t hl 10 _).mono ?_
    rintro e w' ⟨rfl, rfl⟩
    rw [HQ.out]
    go_wp2_with fail
    go_ret
    exact ⟨by rw [HV.out]; rfl, hB⟩
/-- The error of a splitter that is to take something. -/
def errS (s : Sp) : Nat := if chkS s = 0 then (if s.lg = true then 9 else 0) else chkS s
/-- The next line: the splitter, the line, the rest, and whether there is one. -/
def oneL (n : Int) : List UInt8 → List UInt8 → Sp × Ln × List UInt8 × Bool
  | t, [] => (⟨n, t, false⟩, ⟨[], false⟩, [], false)
  | t, c :: r => if c.toNat = 10 then (⟨n, [], false⟩, lineR t, r, true) else if (t.length : Int) = n then (⟨n, [], true⟩, ⟨[], false⟩, [], false) else oneL n (t ++ [c]) r
def zeroS : Sp := ⟨0, [], false⟩
def zeroL : Ln := ⟨[], false⟩
def oneR (s : Sp) (c : List UInt8) : Sp × Ln × List UInt8 × Bool := if errS s = 0 then oneL s.lim s.txt c else (zeroS, zeroL, [], false)
def oneW (r : Sp × Ln × List UInt8 × Bool) (e : Nat) : Value := .tuple #[spV r.1, lnV r.2.1, .string ⟨r.2.2.1.toArray⟩, .bool r.2.2.2, .int .i64 (e : Int)]
def oneV (s : Sp) (c : List UInt8) : Value := oneW (oneR s c) (errS s)
theorem oneL_at {n : Int} {t l : List UInt8} {k : Nat} (h : k < l.length) : oneL n t (l.drop k) = if (l[k]).toNat = 10 then (⟨n, [], false⟩, lineR t, l.drop (k + 1), true) else if (t.length : Int) = n then (⟨n, [], true⟩, ⟨[], false⟩, [], false) else oneL n (t ++ [l[k]]) (l.drop (k + 1)) := by
  rw [List.drop_eq_getElem_cons h]; rfl
theorem CBlk.cells2 {t : TypeId} {w : World} {B : Nat} {a b : Value} (h : CBlk t w B [a, b]) : w.cell? ⟨B, 0, none⟩ = some a ∧ w.cell? ⟨B, 1, none⟩ = some b := ⟨h.cell 0 (by simp), h.cell 1 (by simp)⟩
theorem one_result {w : World} {B C : Nat} {a b c d f : Value} (h1 : CBlk 24 w B [a, b, c]) (h2 : CBlk 27 w C [d, f]) {fn : Func} {p q r s u : Tmp} (h : fn.results = #[.cell p 24, .cell q 27, .tmp r, .tmp s, .tmp u]) (tmps : Array Value) (x y z : Value)
    (hp : tmps.getD p undef = .pointer (some ⟨B, 0, none⟩)) (hq : tmps.getD q undef = .pointer (some ⟨C, 0, none⟩)) (hr : tmps.getD r undef = x) (hs : tmps.getD s undef = y) (hu : tmps.getD u undef = z) : (Go.results fn tmps).run Try.prog w = .ok (.tuple #[.agg #[a, b, c], .agg #[d, f], x, y, z]) w := by
  have hp' : tmps[p]?.getD undef = .pointer (some ⟨B, 0, none⟩) := by simpa using hp
  have hq' : tmps[q]?.getD undef = .pointer (some ⟨C, 0, none⟩) := by simpa using hq
  have hr' : tmps[r]?.getD undef = x := by simpa using hr
  have hs' : tmps[s]?.getD undef = y := by simpa using hs
  have hu' : tmps[u]?.getD undef = z := by simpa using hu
  obtain ⟨c0, c1, c2⟩ := h1.cells3
  have e0 := h2.cell 0 (by simp)
  have e1 := h2.cell 1 (by simp)
  dsimp only [List.getElem_cons_zero, List.getElem_cons_succ] at e0 e1
  simp [Go.results, h, hp', hq', hr', hs', hu', asAddr, go_sem, c0, c1, c2, e0, e1]
theorem one_stores {W : World} {B C n : Nat} {cs ds : List Value} (h1 : CBlk 24 W B cs) (h2 : CBlk 27 W C ds) (hl : cs.length = 3) (hm : ds.length = 2) (hne : B ≠ C) {w : World} (hB : Below n w W) (hn : n ≤ B) (hn2 : n ≤ C) (a b c d f : Value) :
    CBlk 24 (((((W.setCell ⟨B, 0, none⟩ a).setCell ⟨B, 1, none⟩ b).setCell ⟨B, 2, none⟩ c).setCell ⟨C, 0, none⟩ d).setCell ⟨C, 1, none⟩ f) B [a, b, c] ∧
    CBlk 27 (((((W.setCell ⟨B, 0, none⟩ a).setCell ⟨B, 1, none⟩ b).setCell ⟨B, 2, none⟩ c).setCell ⟨C, 0, none⟩ d).setCell ⟨C, 1, none⟩ f) C [d, f] ∧
    Below n w (((((W.setCell ⟨B, 0, none⟩ a).setCell ⟨B, 1, none⟩ b).setCell ⟨B, 2, none⟩ c).setCell ⟨C, 0, none⟩ d).setCell ⟨C, 1, none⟩ f) := by
  refine ⟨?_, ?_, ?_⟩
  · exact ((h1.store3 hl a b c).other ⟨C, 0, none⟩ (fun e => hne e.symm) d).other ⟨C, 1, none⟩ (fun e => hne e.symm) f
  · exact (((h2.other ⟨B, 0, none⟩ hne a).other ⟨B, 1, none⟩ hne b).other ⟨B, 2, none⟩ hne c).store2 hm d f
  · exact below_store2 (below_store3 hB hn a b c) hn2 d f
theorem lwrap64 {x : Int} (h1 : -1000000000000000 < x) (h2 : x < 1000000000000000) : IntKind.i64.wrap x = x := by
  simp only [IntKind.wrap, IntKind.bits, IntKind.signed]
  simp
  omega
theorem lba_append (a b : List UInt8) : ByteArray.mk a.toArray ++ ByteArray.mk b.toArray = ⟨(a ++ b).toArray⟩ := by
  apply ByteArray.ext
  rw [ByteArray.data_append]
  simp
theorem lstr_add {P : Program} {w : World} (a b : List UInt8) (h : a.length + b.length ≤ 9223372036854775807) : (Op.stringOp .add ⟨a.toArray⟩ ⟨b.toArray⟩).run P w = .ok (.string ⟨(a ++ b).toArray⟩) w := by
  rw [← lba_append]
  exact run_string_add_sum _ _ _ h
end Go.Proofs.Ytfagjhadfonhdaa
