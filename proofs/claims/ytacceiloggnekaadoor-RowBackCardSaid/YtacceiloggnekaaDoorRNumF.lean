/-
  Numbers as they are written: what Number answers, by the library's reading and writing. No condition.
-/
import Derived.Test.YtacceiloggnekaaDoorRFacts
import Derived.Lib.AtoiAll
import Derived.Lib.ItoaNum
namespace Go.Proofs.YtacceiloggnekaaDoor
open Go.RowKit
theorem numF_append : ∀ (a b : List UInt8) (n : Nat), numF (a ++ b) n = (numF a n).bind (numF b)
  | [], _, _ => rfl
  | c :: r, b, n => by
    show numF (c :: (r ++ b)) n = _
    unfold numF
    split
    · exact numF_append r b _
    · rfl
theorem numF_one (c : UInt8) (n : Nat) : numF [c] n = if isDg c then some (10 * n + (c.toNat - 48)) else none := by
  unfold numF; rfl
theorem isDg_of {d : Nat} (h : d < 10) : isDg (UInt8.ofNat (48 + d)) = true ∧ (UInt8.ofNat (48 + d)).toNat = 48 + d := by
  have e : (UInt8.ofNat (48 + d)).toNat = 48 + d := by simp; omega
  exact ⟨by unfold isDg; rw [e]; simp; omega, e⟩
theorem dg_back {c : UInt8} (h : isDg c = true) : c.toNat - 48 < 10 ∧ 48 ≤ c.toNat ∧ UInt8.ofNat (48 + (c.toNat - 48)) = c := by
  unfold isDg at h
  simp only [Bool.and_eq_true, decide_eq_true_eq] at h
  refine ⟨by omega, h.1, ?_⟩
  rw [show 48 + (c.toNat - 48) = c.toNat by omega]
  simp
theorem numF_dec : ∀ u : Nat, numF (Lib.decDigits u) 0 = some u := by
  intro u
  induction u using Nat.strongRecOn with
  | ind u ih =>
    rw [Lib.decDigits]
    split
    · rename_i h
      have := isDg_of h
      rw [numF_one, if_pos this.1, this.2]
      simp
    · rename_i h
      have := isDg_of (show u % 10 < 10 by omega)
      rw [numF_append, ih (u / 10) (by omega)]
      show numF _ _ = _
      rw [numF_one, if_pos this.1, this.2]
      congr 1
      omega
theorem dec_head : ∀ u : Nat, 0 < u → ∃ c r, Lib.decDigits u = c :: r ∧ c.toNat ≠ 48 := by
  intro u
  induction u using Nat.strongRecOn with
  | ind u ih =>
    intro hu
    rw [Lib.decDigits]
    split
    · rename_i h
      exact ⟨_, [], rfl, by rw [(isDg_of h).2]; omega⟩
    · rename_i h
      obtain ⟨c, r, e, hc⟩ := ih (u / 10) (by omega) (by omega)
      exact ⟨c, r ++ [UInt8.ofNat (48 + u % 10)], by rw [e]; rfl, hc⟩
theorem dec_len : ∀ (k u : Nat), u < 10 ^ (k + 1) → (Lib.decDigits u).length ≤ k + 1 := by
  intro k
  induction k with
  | zero =>
    intro u h
    rw [Lib.decDigits, dif_pos (by simpa using h)]
    simp
  | succ k ih =>
    intro u h
    rw [Lib.decDigits]
    split
    · simp
    · have := ih (u / 10) (by rw [Nat.pow_succ] at h; omega)
      rw [List.length_append]
      simp
      omega
theorem dec_pos (u : Nat) : 0 < (Lib.decDigits u).length := by
  rw [Lib.decDigits_length]
  exact Lib.nDigits_pos u
/-- What digits say, they are the digits of it. -/
theorem dec_of : ∀ (n : Nat) (d : List UInt8) (k : Nat), d.length = n + 1 → (((d[0]?).getD 0).toNat = 48 → d.length = 1) → numF d 0 = some k → Lib.decDigits k = d := by
  intro n
  induction n with
  | zero =>
    intro d k hl _ h
    match d, hl with
    | [c], _ =>
      rw [numF_one] at h
      split at h
      · rename_i hc
        obtain ⟨h1, h2, h3⟩ := dg_back hc
        injection h with h
        rw [Lib.decDigits, dif_pos (by omega)]
        rw [← h3]
        congr 3
        omega
      · cases h
  | succ n ih =>
    intro d k hl h0 h
    obtain ⟨x, c, rfl⟩ : ∃ x c, d = x ++ [c] := ⟨d.dropLast, d.getLast (by intro e; rw [e] at hl; simp at hl), (List.dropLast_concat_getLast _).symm⟩
    have hx : x.length = n + 1 := by simpa using hl
    rw [numF_append] at h
    cases hq : numF x 0 with
    | none => rw [hq] at h; cases h
    | some k' =>
      rw [hq] at h
      have h : numF [c] k' = some k := h
      rw [numF_one] at h
      split at h
      · rename_i hc
        obtain ⟨h1, h2, h3⟩ := dg_back hc
        injection h with h
        have e0 : (x ++ [c])[0]? = x[0]? := List.getElem?_append_left (by omega)
        rw [e0] at h0
        have hne : ((x[0]?).getD 0).toNat ≠ 48 := fun e => by have := h0 e; rw [hl] at this; omega
        have hk := ih x k' hx (fun e => absurd e hne) hq
        have hk1 : k' ≠ 0 := fun e => by
          rw [e, Lib.decDigits, dif_pos (by omega)] at hk
          rw [← hk] at hne
          exact hne rfl
        rw [Lib.decDigits, dif_neg (by omega), show k / 10 = k' by omega, hk, show k % 10 = c.toNat - 48 by omega, h3]
      · cases h
theorem numF_mono : ∀ (d : List UInt8) (a k : Nat), numF d a = some k → a ≤ k
  | [], a, k, h => by cases h; exact Nat.le_refl _
  | c :: r, a, k, h => by
    unfold numF at h
    split at h
    · have := numF_mono r _ k h
      omega
    · cases h
theorem numF_lt : ∀ (n : Nat) (d : List UInt8) (a k m : Nat), d.length = n → numF d a = some k → a + 1 ≤ m → k + 1 ≤ m * 10 ^ n
  | 0, [], a, k, m, _, h, hm => by cases h; simpa using hm
  | n + 1, c :: r, a, k, m, hl, h, hm => by
    unfold numF at h
    split at h
    · rename_i hc
      have := dg_back hc
      have := numF_lt n r _ k (m * 10) (by simpa using hl) h (by omega)
      rw [Nat.pow_succ, Nat.mul_comm (10 ^ n) 10, ← Nat.mul_assoc]
      exact this
    · cases h
theorem parse_of : ∀ (d : List UInt8) (a k : Nat), numF d a = some k → k < 1844674407370955162 → Lib.parseUint10 a d = .ok k
  | [], a, k, h, _ => by cases h; rfl
  | c :: r, a, k, h, hk => by
    unfold numF at h
    split at h
    · rename_i hc
      have h1 := dg_back hc
      have h2 := numF_mono r _ k h
      have h3 := parse_of r (10 * a + (c.toNat - 48)) k h hk
      unfold Lib.parseUint10
      rw [if_pos ⟨h1.2.1, by omega⟩, if_neg (by omega), if_neg (by omega), show a * 10 + (c.toNat - 48) = 10 * a + (c.toNat - 48) by omega]
      exact h3
    · cases h
/-- The number that digits are; none where there are none, too many, or a zero ahead. -/
def digN (m : Bool) (d : List UInt8) : Option Int :=
  if BadD m d then none else (numF d 0).map fun n => if m then -(n : Int) else (n : Int)
/-- The number that a word is. -/
def numN (l : List UInt8) : Option Int :=
  match l with
  | [] => none
  | c :: r => if c.toNat = 45 then digN true r else digN false (c :: r)
def ranR (low high : Int) : Option Int → Int × Nat
  | none => (0, 3)
  | some n => if n < low ∨ high < n then (0, 2) else (n, 0)
theorem digR_is (m : Bool) (d : List UInt8) (low high : Int) : digR m d low high = ranR low high (digN m d) := by
  unfold digR digN
  split
  · rfl
  · cases numF d 0 with
    | none => rfl
    | some n => rfl
theorem numR_is (l : List UInt8) (low high : Int) : numR l low high = ranR low high (numN l) := by
  unfold numR numN
  cases l with
  | nil => rfl
  | cons c r =>
    dsimp only
    split <;> exact digR_is _ _ _ _
theorem digN_some {m : Bool} {d : List UInt8} {n : Int} (h : digN m d = some n) : ∃ k : Nat, numF d 0 = some k ∧ d ≠ [] ∧ k ≤ 999999999 ∧ (m = true → 0 < k) ∧ n = (if m then -(k : Int) else (k : Int)) ∧ Lib.decDigits k = d := by
  unfold digN at h
  split at h
  · cases h
  · rename_i hb
    unfold BadD at hb
    have hb1 : d.length ≠ 0 := fun e => hb (.inl e)
    have hb2 : ¬ 9 < d.length := fun e => hb (.inr (.inl e))
    have hb3 : ((d[0]?).getD 0).toNat = 48 → ¬ (1 < d.length ∨ m = true) := fun e g => hb (.inr (.inr ⟨e, g⟩))
    cases hq : numF d 0 with
    | none => rw [hq] at h; cases h
    | some k =>
      rw [hq] at h
      have hlt := numF_lt d.length d 0 k 1 rfl hq (Nat.le_refl _)
      have hp : 10 ^ d.length ≤ 10 ^ 9 := Nat.pow_le_pow_right (by omega) (by omega)
      have hdec := dec_of (d.length - 1) d k (by omega) (fun e => by have := hb3 e; omega) hq
      refine ⟨k, rfl, fun e => hb1 (by rw [e]; rfl), by omega, fun hm => ?_, ?_, hdec⟩
      · rcases Nat.eq_zero_or_pos k with h0 | h0
        · subst h0
          rw [Lib.decDigits, dif_pos (by omega)] at hdec
          exact absurd (Or.inr hm) (hb3 (by rw [← hdec]; rfl))
        · exact h0
      · injection h with h
        exact h.symm
theorem numN_some {l : List UInt8} {n : Int} (h : numN l = some n) : Lib.atoiAll l = .ok n ∧ Lib.itoa n = l ∧ -999999999 ≤ n ∧ n ≤ 999999999 := by
  unfold numN at h
  cases l with
  | nil => cases h
  | cons c r =>
    dsimp only at h
    split at h
    · rename_i hc
      obtain ⟨k, h1, h2, h3, h4, h5, h6⟩ := digN_some h
      have h4 := h4 rfl
      rw [if_pos rfl] at h5
      have hc2 : c = 45 := UInt8.toNat_inj.1 hc
      refine ⟨?_, ?_, by omega, by omega⟩
      · unfold Lib.atoiAll Lib.parseMag
        dsimp only
        rw [if_pos (Or.inr hc), if_neg h2, parse_of r 0 k h1 (by omega)]
        dsimp only
        rw [if_neg (by omega), if_neg (by omega), if_pos hc, h5]
      · unfold Lib.itoa
        rw [if_pos (by omega), h5, Int.natAbs_neg, Int.natAbs_natCast, h6, hc2]
    · rename_i hc
      obtain ⟨k, h1, h2, h3, h4, h5, h6⟩ := digN_some h
      rw [if_neg (by simp)] at h5
      have h43 : c.toNat ≠ 43 := fun e => by
        unfold numF at h1
        rw [if_neg (by unfold isDg; rw [e]; decide)] at h1
        cases h1
      refine ⟨?_, ?_, by omega, by omega⟩
      · unfold Lib.atoiAll Lib.parseMag
        dsimp only
        rw [if_neg (show ¬ (c.toNat = 43 ∨ c.toNat = 45) from fun h => h.elim h43 hc), if_neg h2, parse_of (c :: r) 0 k h1 (by omega)]
        dsimp only
        rw [if_neg (by omega), if_neg (by omega), if_neg hc, h5]
      · unfold Lib.itoa
        rw [if_neg (by omega), h5, Int.toNat_natCast, h6]
theorem digN_dec {m : Bool} {k : Nat} (hk : k ≤ 999999999) (hm : m = true → 0 < k) : digN m (Lib.decDigits k) = some (if m then -(k : Int) else (k : Int)) := by
  have hl := dec_len 8 k (by omega)
  have hp := dec_pos k
  unfold digN
  rw [if_neg, numF_dec]
  · rfl
  · rintro (h | h | ⟨h, h2⟩)
    · omega
    · omega
    · rcases Nat.eq_zero_or_pos k with h0 | h0
      · subst h0
        rcases h2 with h2 | h2
        · rw [Lib.decDigits, dif_pos (by omega)] at h2
          simp at h2
        · exact absurd (hm h2) (by omega)
      · obtain ⟨c, r, e, hc⟩ := dec_head k h0
        rw [e] at h
        exact hc h
theorem numN_itoa {n : Int} (h1 : -999999999 ≤ n) (h2 : n ≤ 999999999) : numN (Lib.itoa n) = some n := by
  unfold Lib.itoa
  split
  · rename_i h
    show (if (45 : UInt8).toNat = 45 then digN true (Lib.decDigits n.natAbs) else digN false (45 :: Lib.decDigits n.natAbs)) = _
    rw [if_pos (show (45 : UInt8).toNat = 45 by decide), digN_dec (by omega) (fun _ => by omega), if_pos rfl]
    congr 1
    omega
  · rename_i h
    have hd := digN_dec (m := false) (k := n.toNat) (by omega) (fun h => by cases h)
    rw [if_neg (by simp)] at hd
    have hp := dec_pos n.toNat
    have hnum := numF_dec n.toNat
    cases hl : Lib.decDigits n.toNat with
    | nil => rw [hl] at hp; simp at hp
    | cons c r =>
      rw [hl] at hd hnum
      have hc : c.toNat ≠ 45 := fun e => by
        unfold numF at hnum
        rw [if_neg (by unfold isDg; rw [e]; decide)] at hnum
        cases hnum
      unfold numN
      dsimp only
      rw [if_neg hc, hd]
      congr 1
      omega
theorem numN_none {l : List UInt8} {n : Int} (h : numN l = none) : Lib.itoa n ≠ l ∨ n < -999999999 ∨ 999999999 < n := by
  by_cases e : Lib.itoa n = l
  · by_cases h1 : -999999999 ≤ n
    · by_cases h3 : n ≤ 999999999
      · have := numN_itoa h1 h3
        rw [e, h] at this
        cases this
      · exact .inr (.inr (by omega))
    · exact .inr (.inl (by omega))
  · exact .inl e
end Go.Proofs.YtacceiloggnekaaDoor
