/-
  Quoted words: step by step, and what is written is read. No condition.
-/
import Derived.Test.YtacceiloggnekaaDoorRValue
namespace Go.Proofs.YtacceiloggnekaaDoor
open Go.RowKit
def hexB (b : UInt8) : Int := valH b.toNat
/-- The next byte of a quoted word: how many bytes are taken, and the byte; (0, none) is a fault, (1, none) the end. -/
def stepQ : List UInt8 → Nat × Option UInt8
  | [] => (0, none)
  | c :: r => if c.toNat = 34 then (1, none) else if c.toNat < 32 ∨ 126 < c.toNat then (0, none) else if c.toNat ≠ 92 then (1, some c) else
    match r with
    | [] => (0, none)
    | d :: r2 => if d.toNat = 34 ∨ d.toNat = 92 then (2, some d) else
      match r2 with
      | e :: f :: _ => if d.toNat = 120 ∧ 0 ≤ hexB e ∧ 0 ≤ hexB f then (4, some (UInt8.ofNat (16 * (hexB e).toNat + (hexB f).toNat))) else (0, none)
      | _ => (0, none)
/-- What a quoted word contains, and how many bytes it has behind its first quotation mark. -/
def quoF : Nat → List UInt8 → Option (List UInt8 × Nat)
  | 0, _ => none
  | n + 1, r =>
    match stepQ r with
    | (0, _) => none
    | (m + 1, none) => some ([], m + 1)
    | (m + 1, some b) => (quoF n (r.drop (m + 1))).map fun x => (b :: x.1, m + 1 + x.2)
def quo (r : List UInt8) : Option (List UInt8 × Nat) := quoF (r.length + 1) r
theorem stepQ_nil : stepQ [] = (0, none) := rfl
theorem quoF_fuel : ∀ (n m : Nat) (r : List UInt8), r.length < n → r.length < m → quoF n r = quoF m r
  | 0, _, _, h, _ => by omega
  | _, 0, _, _, h => by omega
  | n + 1, m + 1, r, h1, h2 => by
    unfold quoF
    cases r with
    | nil => rfl
    | cons c r =>
      split
      · rfl
      · rfl
      · rename_i k b _
        rw [quoF_fuel n m ((c :: r).drop (k + 1)) (by simp at h1 ⊢; omega) (by simp at h2 ⊢; omega)]
theorem quo_nil : quo [] = none := rfl
theorem quo_bad {r : List UInt8} (h : stepQ r = (0, none)) : quo r = none := by
  unfold quo quoF; rw [h]
theorem quo_end {r : List UInt8} (h : stepQ r = (1, none)) : quo r = some ([], 1) := by
  unfold quo quoF; rw [h]
theorem quo_more {r : List UInt8} {m : Nat} {b : UInt8} (hr : r ≠ []) (h : stepQ r = (m + 1, some b)) : quo r = (quo (r.drop (m + 1))).map fun x => (b :: x.1, m + 1 + x.2) := by
  have hl : 0 < r.length := List.length_pos_iff.2 hr
  unfold quo
  rw [quoF, h]
  dsimp only
  rw [quoF_fuel r.length ((r.drop (m + 1)).length + 1) _ (by simp; omega) (by omega)]
/-- The reading of a quoted word from a place k on, with O read before it, as an answer. -/
def quoR (O : List UInt8) (k : Nat) (x : Option (List UInt8 × Nat)) : List UInt8 × Nat :=
  match x with
  | none => ([], 0)
  | some (s, m) => (O ++ s, m + k)
theorem quoR_more {O : List UInt8} {k m : Nat} {b : UInt8} {x : Option (List UInt8 × Nat)} : quoR O k (x.map fun x => (b :: x.1, m + x.2)) = quoR (O ++ [b]) (k + m) x := by
  cases x with
  | none => rfl
  | some x =>
    obtain ⟨s, n⟩ := x
    show (O ++ b :: s, m + n + k) = (O ++ [b] ++ s, n + (k + m))
    rw [List.append_assoc]
    show _ = (O ++ b :: s, _)
    rw [show m + n + k = n + (k + m) by omega]
theorem drop_one {l : List UInt8} {k : Nat} (h : k < l.length) : l.drop k = l[k] :: l.drop (k + 1) := List.drop_eq_getElem_cons h
theorem step_end {l : List UInt8} {k : Nat} (h : k < l.length) (hc : (l[k]).toNat = 34) : stepQ (l.drop k) = (1, none) := by
  rw [drop_one h]; unfold stepQ; dsimp only; rw [if_pos hc]
theorem step_bad {l : List UInt8} {k : Nat} (h : k < l.length) (hc : ¬ (l[k]).toNat = 34) (h2 : (l[k]).toNat < 32 ∨ 126 < (l[k]).toNat) : stepQ (l.drop k) = (0, none) := by
  rw [drop_one h]; unfold stepQ; dsimp only; rw [if_neg hc, if_pos h2]
theorem step_plain {l : List UInt8} {k : Nat} (h : k < l.length) (hc : ¬ (l[k]).toNat = 34) (h2 : ¬ ((l[k]).toNat < 32 ∨ 126 < (l[k]).toNat)) (h3 : (l[k]).toNat ≠ 92) : stepQ (l.drop k) = (1, some l[k]) := by
  rw [drop_one h]; unfold stepQ; dsimp only; rw [if_neg hc, if_neg h2, if_pos h3]
theorem step_esc {l : List UInt8} {k : Nat} (h : k + 1 < l.length) (hc : (l[k]).toNat = 92) (h2 : (l[k + 1]).toNat = 34 ∨ (l[k + 1]).toNat = 92) : stepQ (l.drop k) = (2, some l[k + 1]) := by
  rw [drop_one (by omega : k < l.length), drop_one h]
  unfold stepQ
  dsimp only
  rw [if_neg (by omega), if_neg (by omega), if_neg (by omega)]
  rw [if_pos h2]
theorem step_last {l : List UInt8} {k : Nat} (h : k < l.length) (hl : ¬ k + 1 < l.length) (hc : (l[k]).toNat = 92) : stepQ (l.drop k) = (0, none) := by
  rw [drop_one h, List.drop_eq_nil_of_le (by omega)]
  unfold stepQ
  dsimp only
  rw [if_neg (by omega), if_neg (by omega), if_neg (by omega)]
theorem step_hex {l : List UInt8} {k : Nat} (h : k + 3 < l.length) (hc : (l[k]).toNat = 92) (h2 : ¬ ((l[k + 1]).toNat = 34 ∨ (l[k + 1]).toNat = 92)) :
    stepQ (l.drop k) = if (l[k + 1]).toNat = 120 ∧ 0 ≤ hexB l[k + 2] ∧ 0 ≤ hexB l[k + 3] then (4, some (UInt8.ofNat (16 * (hexB l[k + 2]).toNat + (hexB l[k + 3]).toNat))) else (0, none) := by
  rw [drop_one (by omega : k < l.length), drop_one (by omega : k + 1 < l.length), drop_one (by omega : k + 1 + 1 < l.length), drop_one (by omega : k + 1 + 1 + 1 < l.length)]
  unfold stepQ
  dsimp only
  rw [if_neg (by omega), if_neg (by omega), if_neg (by omega)]
  rw [if_neg h2]
theorem step_short {l : List UInt8} {k : Nat} (h : k + 1 < l.length) (hl : ¬ k + 3 < l.length) (hc : (l[k]).toNat = 92) (h2 : ¬ ((l[k + 1]).toNat = 34 ∨ (l[k + 1]).toNat = 92)) : stepQ (l.drop k) = (0, none) := by
  rw [drop_one (by omega : k < l.length), drop_one h]
  unfold stepQ
  dsimp only
  rw [if_neg (by omega), if_neg (by omega), if_neg (by omega)]
  rw [if_neg h2]
  have hlen : (l.drop (k + 1 + 1)).length ≤ 1 := by simp; omega
  match l.drop (k + 1 + 1), hlen with
  | [], _ => rfl
  | [_], _ => rfl
theorem step_hex_ok {l : List UInt8} {k : Nat} (h : k + 3 < l.length) (hc : (l[k]).toNat = 92) (h2 : ¬ ((l[k + 1]).toNat = 34 ∨ (l[k + 1]).toNat = 92)) (h3 : (l[k + 1]).toNat = 120) (h4 : 0 ≤ hexB l[k + 2]) (h5 : 0 ≤ hexB l[k + 3]) :
    stepQ (l.drop k) = (4, some (UInt8.ofNat (16 * (hexB l[k + 2]).toNat + (hexB l[k + 3]).toNat))) :=
  (step_hex h hc h2).trans (if_pos ⟨h3, h4, h5⟩)
theorem step_hex_no {l : List UInt8} {k : Nat} (h : k + 3 < l.length) (hc : (l[k]).toNat = 92) (h2 : ¬ ((l[k + 1]).toNat = 34 ∨ (l[k + 1]).toNat = 92)) (h3 : ¬ ((l[k + 1]).toNat = 120 ∧ 0 ≤ hexB l[k + 2] ∧ 0 ≤ hexB l[k + 3])) : stepQ (l.drop k) = (0, none) :=
  (step_hex h hc h2).trans (if_neg h3)
theorem next_hex {l : List UInt8} {k at0 : Nat} {O : List UInt8} {v2 v3 : Int} {z : Nat} {X : UInt8} (h : k + 3 < l.length) (hc : (l[k]).toNat = 92) (h2 : ¬ ((l[k + 1]).toNat = 34 ∨ (l[k + 1]).toNat = 92)) (h3 : (l[k + 1]).toNat = 120) (e2 : hexB l[k + 2] = v2) (e3 : hexB l[k + 3] = v3) (n2 : 0 ≤ v2) (n3 : 0 ≤ v3) (hz : 16 * v2.toNat + v3.toNat = z) (hX : UInt8.ofNat z = X) (hka : at0 + 1 ≤ k) :
    quoR O (k - at0) (quo (l.drop k)) = quoR (O ++ [X]) (k + 4 - at0) (quo (l.drop (k + 4))) := by
  have hs := step_hex_ok h hc h2 h3 (by rw [e2]; exact n2) (by rw [e3]; exact n3)
  rw [e2, e3, hz, hX] at hs
  rw [quo_more (m := 3) (b := X) (by intro e; have := congrArg List.length e; simp at this; omega) hs, quoR_more, List.drop_drop, show k - at0 + (3 + 1) = k + 4 - at0 by omega]
theorem hexC_valH : ∀ k, k < 16 → valH (hexC k).toNat = (k : Int) := by decide
/-- A byte as it is written is read. -/
theorem step_escB (b : UInt8) (r : List UInt8) : stepQ (escB b ++ r) = ((escB b).length, some b) := by
  have hb : b.toNat < 256 := UInt8.toNat_lt _
  unfold escB
  split
  · rename_i h
    show stepQ (92 :: b :: r) = _
    unfold stepQ
    dsimp only
    rw [if_neg (by decide), if_neg (by decide), if_neg (by decide)]
    rw [if_pos h]
    rfl
  · rename_i h
    split
    · rename_i h2
      show stepQ (b :: r) = _
      unfold stepQ
      dsimp only
      rw [if_neg (by omega), if_neg (by omega), if_pos (by omega)]
      rfl
    · show stepQ (92 :: 120 :: hexC (b.toNat / 16) :: hexC (b.toNat % 16) :: r) = _
      unfold stepQ
      dsimp only
      rw [if_neg (by decide), if_neg (by decide), if_neg (by decide)]
      have e1 := hexC_valH (b.toNat / 16) (by omega)
      have e2 := hexC_valH (b.toNat % 16) (by omega)
      rw [if_neg (by decide)]
      unfold hexB
      rw [e1, e2, if_pos ⟨by decide, by omega, by omega⟩]
      have e3 : 16 * ((b.toNat / 16 : Nat) : Int).toNat + ((b.toNat % 16 : Nat) : Int).toNat = b.toNat := by omega
      rw [e3]
      simp
/-- What is written in quotation marks is read. -/
theorem quo_esc : ∀ (s : List UInt8) (r : List UInt8), quo (escL s ++ 34 :: r) = some (s, (escL s).length + 1)
  | [], r => by
    show quo (34 :: r) = _
    rw [quo_end (by unfold stepQ; dsimp only; rw [if_pos (by decide)])]
    rfl
  | b :: s, r => by
    rw [escL_cons, List.append_assoc]
    have h := step_escB b (escL s ++ 34 :: r)
    have hl := (escB_len b).1
    obtain ⟨m, hm⟩ : ∃ m, (escB b).length = m + 1 := ⟨(escB b).length - 1, by omega⟩
    rw [hm] at h
    rw [quo_more (by intro e; have := congrArg List.length e; simp at this) h, ← hm, List.drop_left, quo_esc s r]
    show some (b :: s, _) = some (b :: s, _)
    rw [List.length_append, Nat.add_assoc]
end Go.Proofs.YtacceiloggnekaaDoor
