/-
  The program's lines: the iterator over the lines of a text, for every loop body that leaves the text's box alone.
-/
import Derived.RangeFuncNested
import Derived.RangeFuncBound
import Derived.RangeFuncCalls
import Derived.RangeFuncLeaves
import Derived.RangeFuncBox
import Derived.Shelf.Abstract
import Derived.Shelf.RegionOpen
import Derived.OwnWalkIn
import Derived.TacticsInMore
import Derived.LoopNIn
import Derived.LoopIn
import Derived.Test.YtacceiloggnekaaDoorRPCut
import Derived.Test.YtacceiloggnekaaDoorRPWords
namespace Go.Proofs.YtacceiloggnekaaDoor
open Go.RowKit Go.Shelf
attribute [local go_sem] Oper.semAt_some ba_get
/-- The blocks of ks lie as they lay. -/
def KeepsAt (ks : Nat → Prop) (A B : World) : Prop := ∀ k, ks k → B.heap[k]? = A.heap[k]?
theorem KeepsAt.refl (ks : Nat → Prop) (A : World) : KeepsAt ks A A := fun _ _ => rfl
theorem KeepsAt.trans {ks : Nat → Prop} {A B C : World} (h : KeepsAt ks A B) (k : KeepsAt ks B C) : KeepsAt ks A C := fun i hi => (k i hi).trans (h i hi)
theorem KeepsAt.below {ks : Nat → Prop} {A B : World} {n : Nat} (h : Below n A B) (hk : ∀ k, ks k → k < n) : KeepsAt ks A B := fun k hp => h.block k (hk k hp)
theorem KeepsAt.cell {ks : Nat → Prop} {A B : World} (h : KeepsAt ks A B) {p : Addr} (hp : ks p.block) : B.cell? p = A.cell? p := World.cell?_of_block (w := A) (h p.block hp)
theorem keepsAt_b {ks : Nat → Prop} {w : World} (hk : ∀ k, ks k → k < w.heap.size) (W : World) (l : Nat) (o o' : Obj) (hl : w.heap.size ≤ l) (h : W.heap[l]? = some o) (_ : o.isCells = false) (_ : o.isWalk = false) : KeepsAt ks W (W.putObj l o') :=
  fun k hp => (belowK_b (n₀ := w.heap.size) (Nat.le_refl _) W l o o' hl h ‹_› ‹_›).block k (hk k hp)
/-- A line: its offset and its bytes. -/
abbrev LineX : Type := { x : Nat × List UInt8 // x.1 < 1000000 ∧ x.2.length < 1000000 }
/-- The lines of a text that begins at o. -/
def linesF : Nat → Nat → List UInt8 → List (Nat × List UInt8)
  | 0, _, _ => []
  | _ + 1, _, [] => []
  | f + 1, o, c :: r => (o, (c :: r).take (lineN (c :: r))) :: linesF f (o + lineN (c :: r) + 1) ((c :: r).drop (lineN (c :: r) + 1))
theorem linesF_fuel : ∀ (f g o : Nat) (r : List UInt8), r.length ≤ f → r.length ≤ g → linesF f o r = linesF g o r
  | 0, 0, _, _, _, _ => rfl
  | 0, g + 1, _, r, h, _ => by
    obtain rfl : r = [] := List.eq_nil_of_length_eq_zero (by omega)
    rfl
  | f + 1, 0, _, r, _, h => by
    obtain rfl : r = [] := List.eq_nil_of_length_eq_zero (by omega)
    rfl
  | f + 1, g + 1, o, [], _, _ => rfl
  | f + 1, g + 1, o, c :: r, h1, h2 => by
    unfold linesF
    rw [linesF_fuel f g _ ((c :: r).drop (lineN (c :: r) + 1)) (by rw [List.length_drop]; simp at h1 ⊢; omega) (by rw [List.length_drop]; simp at h2 ⊢; omega)]
def linesG (o : Nat) (l : List UInt8) : List (Nat × List UInt8) := linesF l.length o l
theorem linesG_nil (o : Nat) : linesG o [] = [] := rfl
theorem linesG_step (o : Nat) (r : List UInt8) (h : r ≠ []) : linesG o r = (o, r.take (lineN r)) :: linesG (o + lineN r + 1) (r.drop (lineN r + 1)) := by
  cases r with
  | nil => exact absurd rfl h
  | cons c r =>
    unfold linesG
    rw [List.length_cons, linesF, linesF_fuel r.length ((c :: r).drop (lineN (c :: r) + 1)).length _ _ (by rw [List.length_drop]; simp) (Nat.le_refl _)]
def encX (x : LineX) : Array Value := #[.int .i64 (x.1.1 : Int), .string ⟨x.1.2.toArray⟩]
set_option maxRecDepth 100000 in
set_option maxHeartbeats 4000000 in
theorem lines1_in (n : Nat) (hn : 1 ≤ n) (lp Bt : Nat) (l : List UInt8) (hl : l.length < 900000) (J Jx : List LineX → World → Prop)
    (W : World) (hJ : AbidesFrom W.heap.size J)
    (hY : ∀ pre x W, J pre W → pre.length < 1000000 → YieldAt Fence.wide (n - 1) Tryd.prog lp (encX x) W fun e W' =>
      (e = .returned (.bool true) ∧ J (pre ++ [x]) W' ∧ KeepsAt (fun k => k = Bt) W W') ∨ (e = .returned (.bool false) ∧ Jx (pre ++ [x]) W'))
    (hc : W.cell? ⟨Bt, 0, none⟩ = some (.string ⟨l.toArray⟩)) (h0 : J [] W) :
    CallsIn Fence.wide n Tryd.prog 43 #[.func (.yield lp) #[] #[], .pointer (some ⟨Bt, 0, none⟩)] W fun e W' => (∃ v, e = .returned v) ∧
      ((∃ ys : List LineX, ys.map (·.1) = linesG 0 l ∧ J ys W') ∨ (∃ pre : List LineX, (∃ k, pre.map (·.1) ++ k = linesG 0 l) ∧ Jx pre W')) := by
  refine callsIn_of_wp Tryd.func43 rfl trivial ?_ rfl
  simp only [Tryd.ntmps43, List.size_toArray, List.length_cons, List.length_nil, Nat.reduceAdd, Nat.reduceSub, Array.replicate_succ, Array.replicate_zero, List.push_toArray, List.append_toArray, List.nil_append, List.cons_append]
  gi_wp2
  gi_loopw [3] (fun i wr => ∃ (k : Nat) (pre : List LineX), k ≤ l.length + 1 ∧ pre.length ≤ k ∧ i = .int .i64 k ∧ Hid (pre.map (·.1) ++ linesG k (l.drop k) = linesG 0 l) ∧ J pre wr ∧ KeepsAt (fun k => k = Bt) W wr)
    (fun i _ => l.length + 1 - (intOf i).toNat)
  case atStart => exact ⟨0, [], Nat.zero_le _, Nat.zero_le _, rfl, Lib.hid (by rw [List.drop_zero]; rfl), h0, KeepsAt.refl _ _⟩
  case round =>
    obtain ⟨k, pre, hk, hpl, rfl, hst, hJp, hKp⟩ := hrel
    rename World => W1
    have hc1 := (hKp.cell (p := ⟨Bt, 0, none⟩) rfl).trans hc
    by_cases hlt : k < l.length
    · have d1 : decide ((k : Int) < (l.length : Int)) = true := decide_eq_true (by omega)
      have d1n : decide (k < l.length) = true := decide_eq_true hlt
      have hb1 : (k : Int) ≤ (l.length : Int) := by omega
      have hgx : (ByteArray.mk l.toArray).extract k l.length = ⟨(l.drop k).toArray⟩ := by
        have := ba_cutn l k (l.length - k)
        rw [show k + (l.length - k) = l.length by omega, List.take_of_length_le (by simp)] at this
        exact this
      have hstep := linesG_step k (l.drop k) (by intro e; have := congrArg List.length e; simp at this; omega)
      have hle := lineN_le (l.drop k)
      have hTl : (l.drop k).length = l.length - k := by simp
      rw [List.drop_drop] at hstep
      obtain ⟨T, hT⟩ : ∃ T, l.drop k = T := ⟨_, rfl⟩
      rw [hT] at hgx hstep hle hTl
      have hst2 := hst.out
      rw [hT, hstep] at hst2
      obtain ⟨X, hX⟩ : ∃ X, T.take (lineN T) = X := ⟨_, rfl⟩
      have hXl : X.length = lineN T := by rw [← hX, List.length_take]; omega
      rw [hX, ← hXl] at hst2
      have HXl : Hid (X.length ≤ T.length) := Lib.hid (by omega)
      have hkx : k < 1000000 := by omega
      have hXs : X.length < 1000000 := by omega
      obtain ⟨x, hx⟩ : ∃ x : LineX, x = ⟨(k, X), hkx, hXs⟩ := ⟨_, rfl⟩
      have hx1 : x.1 = (k, X) := by rw [hx]
      have hnext : Hid ((pre ++ [x]).map (·.1) ++ linesG (k + (X.length + 1)) (l.drop (k + (X.length + 1))) = linesG 0 l) := Lib.hid (by
        rw [← hst2, List.map_append, List.map_cons, hx1]
        simp [Nat.add_assoc])
      have hTs : T.length < 1000000 := by omega
      have henc : encX x = #[.int .i64 (k : Int), .string ⟨X.toArray⟩] := by unfold encX; rw [hx1]
      have HCUT := Lib.hid (cut_any T hTs)
      have HX := Lib.hid hX
      have hXT : X.length ≤ T.length := by omega
      have hn2 : k + (X.length + 1) ≤ l.length + 1 := by omega
      have q1 : IntKind.i64.wrap ((X.length : Int) + 1) = (X.length : Int) + 1 := by rw [IntKind.wrap_i64]; omega
      have q2 : IntKind.i64.wrap ((k : Int) + ((X.length : Int) + 1)) = ((k + (X.length + 1) : Nat) : Int) := by rw [IntKind.wrap_i64]; omega
      have q2b : (k : Int) + ((X.length : Int) + 1) = ((k + (X.length + 1) : Nat) : Int) := by omega
      obtain ⟨k2, hk2⟩ : ∃ k2, k + (X.length + 1) = k2 := ⟨_, rfl⟩
      rw [hk2] at hnext hn2 q2 q2b
      have hkk : k < k2 := by omega
      have HE := Lib.hid henc
      clear hst2 hst hstep hle hTl hT hX hXl hx hx1 hk2 henc
      gi_wp2_with fail
      refine ⟨trivial, ?_⟩
      refine (callsIn_wide.2 (HCUT.out _)).mono ?_
      rintro e w1 ⟨⟨Y, b, rfl⟩, hb⟩
      rw [HX.out]
      have hJ1 : J pre w1 := hJ _ _ _ none hJp (Below.but hb none) (fun r e => by cases e)
      have hK1 : KeepsAt (fun k => k = Bt) W w1 := hKp.trans (KeepsAt.below hb (fun i hi => by subst hi; exact block_lt_of_cell hc1))
      obtain ⟨fn, tmps, assign, body, hy, hR⟩ := hY pre x w1 hJ1 (by omega)
      rw [HE.out] at hy
      clear hb hJ1 hc1
      gi_wp2_with fail
      refine hR.mono ?_
      rintro e W3 (⟨rfl, hJ3, hk3⟩ | ⟨rfl, hJx3⟩)
      · gi_wp2
        go_roundw
        case rel => exact ⟨k2, pre ++ [x], hn2, by rw [List.length_append]; simp; omega, by first | rfl | go_num, hnext, hJ3, hK1.trans hk3⟩
        case measure => simp [intOf]; omega
      · gi_wp2
        refine bodyPost_ret (results_none rfl _ _ _) rfl ?_
        refine ⟨⟨_, rfl⟩, .inr ⟨pre ++ [x], ⟨_, hnext.out⟩, hJx3⟩⟩
    · have d1 : decide ((k : Int) < (l.length : Int)) = false := decide_eq_false (by omega)
      have d1n : decide (k < l.length) = false := decide_eq_false hlt
      have hfin : Hid (pre.map (·.1) = linesG 0 l) := Lib.hid (by
        have := hst.out
        rw [List.drop_eq_nil_of_le (by omega), linesG_nil, List.append_nil] at this
        exact this)
      gi_wp2
      go_end0
      exact ⟨⟨_, rfl⟩, .inl ⟨pre, hfin.out, hJp⟩⟩
theorem lines_stops (n : Nat) (hn : 1 ≤ n) (Bt : Nat) (l : List UInt8) (hl : l.length < 900000) (w : World) (hc : w.cell? ⟨Bt, 0, none⟩ = some (.string ⟨l.toArray⟩)) :
    SeqStopsK Fence.wide n Tryd.prog 43 #[.pointer (some ⟨Bt, 0, none⟩)] encX (KeepsAt (fun k => k = Bt)) (fun ys => ys.map (·.1) = linesG 0 l) (fun pre => ∃ k, pre.map (·.1) ++ k = linesG 0 l) 1000000 w :=
  fun lp J Jx W hW hJ _ hY h0 => lines1_in n hn lp Bt l hl J Jx W hJ hY ((hW.cell (p := ⟨Bt, 0, none⟩) (block_lt_of_cell hc)).trans hc) h0
theorem lines_any (l : List UInt8) (w : World) :
    Calls Tryd.prog 32 #[.string ⟨l.toArray⟩] w fun e w' => e = .returned (.func (.func 43) #[] #[.pointer (some ⟨w.heap.size, 0, none⟩)]) ∧ w' = w.alloc (.cells #[.string ⟨l.toArray⟩] 9) := by
  go_enter Tryd.func32, Tryd.ntmps32
  go_wp2_with fail
  go_ret
  exact ⟨rfl, rfl⟩
/-- What the rows are behind a line. -/
def stepR : (Nat × Nat) ⊕ List Rw → Nat × List UInt8 → (Nat × Nat) ⊕ List Rw
  | .inl z, _ => .inl z
  | .inr P, (o, t) => if 1000 < t.length then .inl (4, o) else
    match rowL o t with
    | .inl p => .inl (3, p)
    | .inr ws => .inr (if ws.length = 0 then P else P ++ [⟨(o : Int), ws⟩])
def foldR (xs : List (Nat × List UInt8)) : (Nat × Nat) ⊕ List Rw := xs.foldl stepR (.inr [])
theorem stepR_bad (z : Nat × Nat) : ∀ xs : List (Nat × List UInt8), xs.foldl stepR (.inl z) = .inl z
  | [] => rfl
  | _ :: xs => stepR_bad z xs
theorem foldR_snoc (xs : List (Nat × List UInt8)) (x : Nat × List UInt8) : foldR (xs ++ [x]) = stepR (foldR xs) x := by
  unfold foldR
  rw [List.foldl_append]
  rfl
theorem foldR_bad {xs k : List (Nat × List UInt8)} {z : Nat × Nat} (h : foldR xs = .inl z) : foldR (xs ++ k) = .inl z := by
  unfold foldR at h ⊢
  rw [List.foldl_append, h]
  exact stepR_bad z k
theorem fold_rows : ∀ (n o : Nat) (r : List UInt8) (P : List Rw), r.length ≤ n → (linesG o r).foldl stepR (.inr P) = accRs P (rowsG o r)
  | n, o, [], P, _ => by
    rw [linesG_nil, rowsG_nil]
    show Sum.inr P = Sum.inr (P ++ [])
    rw [List.append_nil]
  | 0, o, c :: r, P, h => by simp at h
  | n + 1, o, c :: r, P, h => by
    have ih := fun P' => fold_rows n (o + lineN (c :: r) + 1) ((c :: r).drop (lineN (c :: r) + 1)) P' (by rw [List.length_drop]; simp at h ⊢; omega)
    have hle := lineN_le (c :: r)
    rw [linesG_step o (c :: r) (by simp), rowsG_step o (c :: r) (by simp), List.foldl_cons]
    have hlen : ((c :: r).take (lineN (c :: r))).length = lineN (c :: r) := by rw [List.length_take]; omega
    unfold stepR
    dsimp only
    rw [hlen]
    by_cases h1 : 1000 < lineN (c :: r)
    · rw [if_pos h1, if_pos h1]
      exact stepR_bad _ _
    · rw [if_neg h1, if_neg h1]
      cases rowL o ((c :: r).take (lineN (c :: r))) with
      | inl p => exact stepR_bad _ _
      | inr ws =>
        show (linesG _ _).foldl stepR (.inr (if ws.length = 0 then P else P ++ [⟨(o : Int), ws⟩])) = accRs P (consRs o ws _)
        rw [ih, accRs_cons]
theorem foldR_lines (l : List UInt8) : foldR (linesG 0 l) = rowsG 0 l := by
  have := fold_rows l.length 0 l [] (Nat.le_refl _)
  rw [accRs_nil] at this
  exact this
theorem stepR_inr (P : List Rw) (o : Nat) (t : List UInt8) : stepR (.inr P) (o, t) = if 1000 < t.length then .inl (4, o) else
    match rowL o t with
    | .inl p => .inl (3, p)
    | .inr ws => .inr (if ws.length = 0 then P else P ++ [⟨(o : Int), ws⟩]) := rfl
theorem fold_len : ∀ (xs : List (Nat × List UInt8)) (P Q : List Rw), xs.foldl stepR (.inr P) = .inr Q → Q.length ≤ P.length + xs.length
  | [], P, Q, h => by cases h; exact Nat.le_refl _
  | (o, t) :: xs, P, Q, h => by
    rw [List.foldl_cons, stepR_inr] at h
    split at h
    · rw [stepR_bad] at h; cases h
    · split at h
      · rw [stepR_bad] at h; cases h
      · have := fold_len xs _ Q h
        rw [List.length_cons]
        split at this
        · omega
        · rw [List.length_append] at this
          simp at this
          omega
theorem foldR_len (xs : List (Nat × List UInt8)) (P : List Rw) (h : foldR xs = .inr P) : P.length ≤ xs.length := by
  have := fold_len xs [] P h
  simpa using this
end Go.Proofs.YtacceiloggnekaaDoor
