/-
  The reference's word for every line and place.
-/
import Derived.Test.YtacceiloggnekaaDoorRQuoted
import Derived.Test.YtacceiloggnekaaDoorCBlk
namespace Go.Proofs.YtacceiloggnekaaDoor
open Go.RowKit
attribute [local go_sem] ba_get
theorem stepQ_len : ∀ r, (stepQ r).1 ≤ r.length
  | [] => Nat.le_refl _
  | c :: r => by
    unfold stepQ
    dsimp only
    repeat' split
    all_goals simp
theorem quoF_len : ∀ (n : Nat) (r s : List UInt8) (m : Nat), quoF n r = some (s, m) → 0 < m ∧ m ≤ r.length
  | 0, _, _, _, h => by cases h
  | n + 1, r, s, m, h => by
    have hl := stepQ_len r
    unfold quoF at h
    split at h
    · cases h
    · rename_i k hs
      rw [hs] at hl
      cases h
      exact ⟨by omega, hl⟩
    · rename_i k b hs
      rw [hs] at hl
      dsimp only at hl
      cases hq : quoF n (r.drop (k + 1)) with
      | none => rw [hq] at h; cases h
      | some x =>
        rw [hq] at h
        have := quoF_len n _ x.1 x.2 hq
        rw [List.length_drop] at this
        cases h
        exact ⟨by omega, by omega⟩
theorem quoP_len {l : List UInt8} {k : Nat} (h : k < l.length) : k + (quoP l k).2 ≤ l.length := by
  unfold quoP quoR
  cases hq : quo (l.drop (k + 1)) with
  | none => show k + 0 ≤ _; omega
  | some x =>
    have := (quoF_len _ _ x.1 x.2 hq).2
    rw [List.length_drop] at this
    show k + (x.2 + 1) ≤ _
    omega
/-- How many bytes a bare word has; none if a byte in it may not stand there. -/
def bareF : List UInt8 → Option Nat
  | [] => some 0
  | c :: r => if isBl c then some 0 else if isBw c then (bareF r).map (· + 1) else none
theorem bareF_at {l : List UInt8} {k : Nat} (h : k < l.length) : bareF (l.drop k) = if isBl l[k] then some 0 else if isBw l[k] then (bareF (l.drop (k + 1))).map (· + 1) else none := by
  rw [List.drop_eq_getElem_cons h]; rfl
theorem bareF_le : ∀ (l : List UInt8) (n : Nat), bareF l = some n → n ≤ l.length
  | [], n, h => by cases h; exact Nat.le_refl _
  | c :: r, n, h => by
    unfold bareF at h
    split at h
    · cases h; exact Nat.zero_le _
    · split at h
      · cases hr : bareF r with
        | none => rw [hr] at h; cases h
        | some m =>
          rw [hr] at h
          have := bareF_le r m hr
          cases h
          simpa using this
      · cases h
/-- A bare word of so many bytes. -/
def wordR (l : List UInt8) (k : Nat) : Option Nat → List UInt8 × Bool × Nat
  | none => ([], false, 0)
  | some n => ((l.drop k).take n, false, n)
theorem ba_cutn (l : List UInt8) (k n : Nat) : (ByteArray.mk l.toArray).extract k (k + n) = ⟨((l.drop k).take n).toArray⟩ := by
  apply ByteArray.ext
  rw [ByteArray.data_extract]
  simp [List.extract_eq_take_drop]
/-- The word at a place: its text, whether it was quoted, and how many bytes it has; 0 if it is none. -/
def wordT (l : List UInt8) (k : Nat) : List UInt8 × Bool × Nat :=
  if ((l[k]?).getD 0).toNat = 34 then
    if (quoP l k).2 = 0 ∨ k + (quoP l k).2 < l.length ∧ isBl ((l[k + (quoP l k).2]?).getD 0) = false then ([], false, 0) else ((quoP l k).1, true, (quoP l k).2)
  else wordR l k (bareF (l.drop k))
def wordW (x : List UInt8 × Bool × Nat) : Value := .tuple #[.agg #[.int .i64 0, .string ⟨x.1.toArray⟩, .bool x.2.1], .int .i64 (x.2.2 : Nat)]
abbrev WW (a : Int) (t : List UInt8) (q : Bool) : List Value := [.int .i64 a, .string ⟨t.toArray⟩, .bool q]
theorem CBlk.word_results {w : World} {B : Nat} {a : Int} {t : List UInt8} {q : Bool} (hb : CBlk 47 w B (WW a t q)) {fn : Func} {p n : Tmp} (h : fn.results = #[.cell p 47, .tmp n]) (tmps : Array Value)
    (v : Value) (hp : tmps.getD p undef = .pointer (some ⟨B, 0, none⟩)) (hn : tmps.getD n undef = v) : (Go.results fn tmps).run Tryd.prog w = .ok (.tuple #[.agg #[.int .i64 a, .string ⟨t.toArray⟩, .bool q], v]) w := by
  have hp' : tmps[p]?.getD undef = .pointer (some ⟨B, 0, none⟩) := by simpa using hp
  have hn' : tmps[n]?.getD undef = v := by simpa using hn
  have c0 := hb.cell 0 (by simp)
  have c1 := hb.cell 1 (by simp)
  have c2 := hb.cell 2 (by simp)
  simp only [WW, List.getElem_cons_zero, List.getElem_cons_succ] at c0 c1 c2
  simp [Go.results, h, hp', hn', asAddr, go_sem, c0, c1, c2]
theorem CBlk.word_store {w : World} {B : Nat} {cs : List Value} (h : CBlk 47 w B cs) (hl : cs.length = 3) (a : Int) (t : List UInt8) (q : Bool) : CBlk 47 (((w.setCell ⟨B, 0, none⟩ (.int .i64 a)).setCell ⟨B, 1, none⟩ (.string ⟨t.toArray⟩)).setCell ⟨B, 2, none⟩ (.bool q)) B (WW a t q) := by
  have := ((h.set 0 (.int .i64 a)).set 1 (.string ⟨t.toArray⟩)).set 2 (.bool q)
  match cs, hl with
  | [x, y, z], _ => exact this
theorem below_store3 {w wr : World} {B n : Nat} (hB : Below n w wr) (h : n ≤ B) (u v x : Value) : Below n w (((wr.setCell ⟨B, 0, none⟩ u).setCell ⟨B, 1, none⟩ v).setCell ⟨B, 2, none⟩ x) := ((hB.setCell (p := ⟨B, 0, none⟩) h _).setCell (p := ⟨B, 1, none⟩) h _).setCell (p := ⟨B, 2, none⟩) h _
theorem at_bl {l : List UInt8} {j : Nat} (h : j < l.length) {v : Bool} (e : isBl ((l[j]?).getD 0) = v) : blN (l[j]).toNat = v := by
  rw [List.getElem?_eq_getElem h] at e
  exact e
set_option maxHeartbeats 2000000 in
theorem refWord_any (l : List UInt8) (hl : l.length < 1000000) (k0 : Nat) (hk0 : k0 < l.length) (w : World) :
    Calls Tryd.prog 48 #[.string ⟨l.toArray⟩, .int .i64 (k0 : Int)] w fun e w' => e = .returned (wordW (wordT l k0)) ∧ Below w.heap.size w w' := by
  have hB0 : Below w.heap.size w (w.alloc (.cells #[.int .i64 0, .string ⟨#[]⟩, .bool false] 47)) := by go_grown
  have r0 := CBlk.new 47 w (WW 0 [] false)
  have hb0 : (k0 : Int) < (l.length : Int) := by omega
  have hg : (l[k0]?).getD 0 = l[k0] := by rw [List.getElem?_eq_getElem hk0]; rfl
  obtain ⟨x, hx⟩ : ∃ x, l[k0] = x := ⟨_, rfl⟩
  obtain ⟨y, hy⟩ : ∃ y, x.toNat = y := ⟨_, rfl⟩
  by_cases h34 : y = 34
  · have a1 : ((y : Int) == 34) = true := by rw [beq_iff_eq]; omega
    have a2 : (y == 34) = true := by rw [beq_iff_eq]; exact h34
    have hNl := quoP_len hk0
    obtain ⟨⟨S, N⟩, hQ⟩ : ∃ R, quoP l k0 = R := ⟨_, rfl⟩
    rw [hQ] at hNl
    dsimp only at hNl
    have HQ : Hid (quoV l k0 = .tuple #[.string ⟨S.toArray⟩, .int .i64 (N : Nat)]) := Lib.hid (by unfold quoV; rw [hQ])
    have HT : Hid (wordT l k0 = if N = 0 ∨ k0 + N < l.length ∧ isBl ((l[k0 + N]?).getD 0) = false then ([], false, 0) else (S, true, N)) := Lib.hid (by
      unfold wordT
      rw [hg, hx, hy, if_pos h34, hQ])
    clear hQ h34 hg
    go_enter Tryd.func48, Tryd.ntmps48
    go_upto_region 1 with fail
    obtain ⟨W, hW⟩ : ∃ W, w.alloc (.cells #[.int .i64 0, .string ⟨#[]⟩, .bool false] 47) = W := ⟨_, rfl⟩
    rw [show w.alloc (.cells (WW 0 [] false).toArray 47) = W from hW] at r0
    rw [hW] at hB0 ⊢
    clear hW
    go_wp2_with fail
    refine (refQuoted_any l hl k0 hk0 _).mono ?_
    rintro e w1 ⟨rfl, hb⟩
    rw [HQ.out]
    have r1 := r0.below hb r0.lt
    have hB1 := hB0.trans (hb.mono hB0.size)
    have l1 := r1.lt
    have c0 := r1.cell 0 (by simp)
    have c1 := r1.cell 1 (by simp)
    have c2 := r1.cell 2 (by simp)
    have f0 := r1.free 0
    have f1 := r1.free 1
    have f2 := r1.free 2
    simp only [WW, List.getElem_cons_zero, List.getElem_cons_succ] at c0 c1 c2
    clear hb hB0 r0
    by_cases hN : N = 0
    · have b1 : ((N : Int) == 0) = true := by rw [beq_iff_eq]; omega
      have b2 : (N == 0) = true := by rw [beq_iff_eq]; exact hN
      have HR : Hid (wordT l k0 = ([], false, 0)) := Lib.hid (by rw [HT.out, if_pos (Or.inl hN)])
      clear hN
      go_wp2_with fail
      rw [HR.out]
      exact bodyPost_ret ((r1.word_store rfl 0 [] false).word_results rfl _ _ rfl rfl) rfl ⟨rfl, below_store3 hB1 (Nat.le_refl _) _ _ _⟩
    · have b1 : ((N : Int) == 0) = false := by rw [beq_eq_false_iff_ne]; omega
      have b2 : (N == 0) = false := by rw [beq_eq_false_iff_ne]; exact hN
      have q1 : IntKind.i64.wrap ((k0 : Int) + (N : Int)) = ((k0 + N : Nat) : Int) := (IntWalk.i64_in _ (by omega)).trans (by omega)
      obtain ⟨j, hj⟩ : ∃ j, k0 + N = j := ⟨_, rfl⟩
      rw [hj] at q1 hNl HT
      have q2 : (k0 : Int) + (N : Int) = (j : Int) := by omega
      by_cases hjl : j < l.length
      · have d1 : decide ((j : Int) < (l.length : Int)) = true := decide_eq_true (by omega)
        have hbj : (j : Int) < (l.length : Int) := by omega
        have hyl : (l[j]).toNat < 256 := UInt8.toNat_lt _
        cases hbl : isBl ((l[j]?).getD 0)
        · have HBL := Lib.hid (at_bl hjl hbl)
          have HR : Hid (wordT l k0 = ([], false, 0)) := Lib.hid (by rw [HT.out, if_pos (Or.inr ⟨hjl, hbl⟩)])
          clear hN hbl
          go_wp2_with fail
          refine (refBlank_any _ hyl _).mono ?_
          rintro e w' ⟨rfl, rfl⟩
          rw [HBL.out]
          go_wp2_with fail
          rw [HR.out]
          exact bodyPost_ret ((r1.word_store rfl 0 [] false).word_results rfl _ _ rfl rfl) rfl ⟨rfl, below_store3 hB1 (Nat.le_refl _) _ _ _⟩
        · have HBL := Lib.hid (at_bl hjl hbl)
          have HR : Hid (wordT l k0 = (S, true, N)) := Lib.hid (by rw [HT.out, if_neg (fun h => h.elim hN (fun h => by rw [hbl] at h; cases h.2))])
          clear hN hbl
          go_wp2_with fail
          refine (refBlank_any _ hyl _).mono ?_
          rintro e w' ⟨rfl, rfl⟩
          rw [HBL.out]
          go_wp2_with fail
          rw [HR.out]
          exact bodyPost_ret ((r1.word_store rfl 0 S true).word_results rfl _ _ rfl rfl) rfl ⟨rfl, below_store3 hB1 (Nat.le_refl _) _ _ _⟩
      · have d1 : decide ((j : Int) < (l.length : Int)) = false := decide_eq_false (by omega)
        have HR : Hid (wordT l k0 = (S, true, N)) := Lib.hid (by rw [HT.out, if_neg (fun h => h.elim hN (fun h => hjl h.1))])
        clear hN
        go_wp2_with fail
        rw [HR.out]
        exact bodyPost_ret ((r1.word_store rfl 0 S true).word_results rfl _ _ rfl rfl) rfl ⟨rfl, below_store3 hB1 (Nat.le_refl _) _ _ _⟩
  · have a1 : ((y : Int) == 34) = false := by rw [beq_eq_false_iff_ne]; omega
    have a2 : (y == 34) = false := by rw [beq_eq_false_iff_ne]; exact h34
    obtain ⟨R, hR⟩ : ∃ R, bareF (l.drop k0) = R := ⟨_, rfl⟩
    have H0 := Lib.hid hR
    have HT : Hid (wordT l k0 = wordR l k0 R) := Lib.hid (by
      unfold wordT
      rw [hg, hx, hy, if_neg h34, hR])
    clear hR h34 hg
    go_enter Tryd.func48, Tryd.ntmps48
    go_upto_region 1 with fail
    obtain ⟨W, hW⟩ : ∃ W, w.alloc (.cells #[.int .i64 0, .string ⟨#[]⟩, .bool false] 47) = W := ⟨_, rfl⟩
    rw [show w.alloc (.cells (WW 0 [] false).toArray 47) = W from hW] at r0
    rw [hW] at hB0 ⊢
    clear hW
    have c0 := r0.cell 0 (by simp)
    have c1 := r0.cell 1 (by simp)
    have c2 := r0.cell 2 (by simp)
    have f0 := r0.free 0
    have f1 := r0.free 1
    have f2 := r0.free 2
    simp only [WW, List.getElem_cons_zero, List.getElem_cons_succ] at c0 c1 c2
    go_wp2_with fail
    go_loopw [8] (fun i wr => ∃ n : Nat, k0 + n ≤ l.length ∧ i = .int .i64 n ∧ Hid ((bareF (l.drop (k0 + n))).map (n + ·) = R) ∧ wr = W) (fun i _ => l.length - (intOf i).toNat)
    case atStart => exact ⟨0, by omega, rfl, Lib.hid (by rw [show (fun x => 0 + x) = (id : Nat → Nat) by funext x; simp, Option.map_id]; exact H0.out), rfl⟩
    case round =>
      obtain ⟨n, hn, rfl, hp, rfl⟩ := hrel
      have q1 : IntKind.i64.wrap ((k0 : Int) + (n : Int)) = ((k0 + n : Nat) : Int) := (IntWalk.i64_in _ (by omega)).trans (by omega)
      obtain ⟨j, hj⟩ : ∃ j, k0 + n = j := ⟨_, rfl⟩
      rw [hj] at q1 hn hp
      have q2 : (k0 : Int) + (n : Int) = (j : Int) := by omega
      by_cases hjl : j < l.length
      · have d1 : decide ((j : Int) < (l.length : Int)) = true := decide_eq_true (by omega)
        have hbj : (j : Int) < (l.length : Int) := by omega
        have hyl : (l[j]).toNat < 256 := UInt8.toNat_lt _
        have hat := bareF_at hjl
        cases hbl : isBl l[j]
        · have HBL : Hid (blN (l[j]).toNat = false) := Lib.hid hbl
          rw [hbl] at hat
          cases hbw : isBw l[j]
          · have HBW : Hid (bwN (l[j]).toNat = false) := Lib.hid hbw
            rw [hbw] at hat
            have HR : Hid (wordT l k0 = ([], false, 0)) := Lib.hid (by rw [HT.out, ← hp.out, hat]; rfl)
            clear hat hbl hbw
            go_wp2_with fail
            refine (refBlank_any _ hyl _).mono ?_
            rintro e w' ⟨rfl, rfl⟩
            rw [HBL.out]
            go_wp2_with fail
            refine (refBare1_any _ hyl _).mono ?_
            rintro e w' ⟨rfl, rfl⟩
            rw [HBW.out]
            go_wp2_with fail
            rw [HR.out]
            exact bodyPost_ret ((r0.word_store rfl 0 [] false).word_results rfl _ _ rfl rfl) rfl ⟨rfl, below_store3 hB0 (Nat.le_refl _) _ _ _⟩
          · have HBW : Hid (bwN (l[j]).toNat = true) := Lib.hid hbw
            rw [hbw] at hat
            have hnext : Hid ((bareF (l.drop (k0 + (n + 1)))).map (n + 1 + ·) = R) := Lib.hid (by
              rw [← hp.out, hat, show k0 + (n + 1) = j + 1 by omega]
              simp only [if_true, Bool.false_eq_true, if_false]
              cases bareF (l.drop (j + 1)) with
              | none => rfl
              | some m => show some (n + 1 + m) = some (n + (m + 1)); rw [show n + 1 + m = n + (m + 1) by omega])
            clear hat hbl hbw
            go_wp2_with fail
            refine (refBlank_any _ hyl _).mono ?_
            rintro e w' ⟨rfl, rfl⟩
            rw [HBL.out]
            go_wp2_with fail
            refine (refBare1_any _ hyl _).mono ?_
            rintro e w' ⟨rfl, rfl⟩
            rw [HBW.out]
            go_wp2_with fail
            go_roundw
            case rel => exact ⟨n + 1, by omega, by go_num, hnext, by simp⟩
            case measure => simp [intOf]; omega
        · have HBL : Hid (blN (l[j]).toNat = true) := Lib.hid hbl
          rw [hbl] at hat
          have HR : Hid (wordT l k0 = ((l.drop k0).take n, false, n)) := Lib.hid (by rw [HT.out, ← hp.out, hat]; rfl)
          have g1 := ba_cutn l k0 n
          rw [hj] at g1
          have b5 : (k0 : Int) ≤ (j : Int) := by omega
          have b6 : (j : Int) ≤ (l.length : Int) := by omega
          clear hat hbl
          go_wp2_with fail
          refine (refBlank_any _ hyl _).mono ?_
          rintro e w' ⟨rfl, rfl⟩
          rw [HBL.out]
          go_wp2_with fail
          rw [HR.out]
          exact bodyPost_ret ((r0.word_store rfl 0 ((l.drop k0).take n) false).word_results rfl _ _ rfl rfl) rfl ⟨rfl, below_store3 hB0 (Nat.le_refl _) _ _ _⟩
      · have d1 : decide ((j : Int) < (l.length : Int)) = false := decide_eq_false (by omega)
        have HR : Hid (wordT l k0 = ((l.drop k0).take n, false, n)) := Lib.hid (by rw [HT.out, ← hp.out, List.drop_eq_nil_of_le (show l.length ≤ j by omega)]; rfl)
        have g1 := ba_cutn l k0 n
        rw [hj] at g1
        have b5 : (k0 : Int) ≤ (j : Int) := by omega
        have b6 : (j : Int) ≤ (l.length : Int) := by omega
        go_wp2_with fail
        rw [HR.out]
        exact bodyPost_ret ((r0.word_store rfl 0 ((l.drop k0).take n) false).word_results rfl _ _ rfl rfl) rfl ⟨rfl, below_store3 hB0 (Nat.le_refl _) _ _ _⟩
end Go.Proofs.YtacceiloggnekaaDoor
