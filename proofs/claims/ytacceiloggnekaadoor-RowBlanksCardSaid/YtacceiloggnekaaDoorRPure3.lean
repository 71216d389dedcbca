/-
  Blanks, empty lines and remarks change no words; the rows of two texts, one behind the other. No condition.
-/
import Derived.Test.YtacceiloggnekaaDoorRPure2
namespace Go.Proofs.YtacceiloggnekaaDoor
open Go.RowKit
/-- The texts of a line's words, without their places. -/
def TW : Nat ⊕ List Wd → Option (List (List UInt8))
  | .inl _ => none
  | .inr ws => some (wordsT ws)
/-- The texts of rows, without their places. -/
def TX : (Nat × Nat) ⊕ List Rw → Option (List (List UInt8))
  | .inl _ => none
  | .inr rs => some (textsL rs)
def app2 : Option (List (List UInt8)) → Option (List (List UInt8)) → Option (List (List UInt8))
  | some a, some b => some (a ++ b)
  | _, _ => none
theorem app2_nil (x : Option (List (List UInt8))) : app2 x (some []) = x := by
  cases x with
  | none => rfl
  | some a => show some (a ++ []) = _; rw [List.append_nil]
theorem nil_app2 (x : Option (List (List UInt8))) : app2 (some []) x = x := by cases x <;> rfl
theorem app2_assoc (x y z : Option (List (List UInt8))) : app2 (app2 x y) z = app2 x (app2 y z) := by
  cases x <;> cases y <;> cases z <;> first | rfl | (show some _ = some _; rw [List.append_assoc])
def rowT (x : Option (List (List UInt8))) : Option (List (List UInt8)) := x.map fun ws => if ws.length = 0 then [] else rowMark :: ws
theorem TX_line (o : Nat) (x : Nat ⊕ List Wd) (y : (Nat × Nat) ⊕ List Rw) : TX (lineR o x y) = app2 (rowT (TW x)) (TX y) := by
  cases x with
  | inl p => rfl
  | inr ws =>
    cases y with
    | inl p => rfl
    | inr rs =>
      show some (textsL (if ws.length = 0 then rs else ⟨(o : Int), ws⟩ :: rs)) = some ((if (wordsT ws).length = 0 then [] else rowMark :: wordsT ws) ++ textsL rs)
      rw [wordsT_length]
      split <;> rfl
theorem TW_cons (x : Wd) (y : Nat ⊕ List Wd) : TW (consR x y) = (TW y).map (x.text :: ·) := by cases y <;> rfl
theorem rowS_off : ∀ (f o o' : Nat) (r : List UInt8), TW (rowS f o r) = TW (rowS f o' r)
  | 0, _, _, _ => rfl
  | f + 1, _, _, [] => rfl
  | f + 1, o, o', c :: r => by
    unfold rowS
    split
    · exact rowS_off f _ _ _
    · split
      · rfl
      · split
        · rfl
        · rw [TW_cons, TW_cons, rowS_off f (o + (wordS (c :: r)).2.2) (o' + (wordS (c :: r)).2.2)]
theorem rowL_off (o o' : Nat) (r : List UInt8) : TW (rowL o r) = TW (rowL o' r) := rowS_off _ _ _ _
theorem rowsS_off : ∀ (f o o' : Nat) (r : List UInt8), TX (rowsS f o r) = TX (rowsS f o' r)
  | 0, _, _, _ => rfl
  | f + 1, _, _, [] => rfl
  | f + 1, o, o', c :: r => by
    unfold rowsS
    split
    · rfl
    · rw [TX_line, TX_line, rowL_off o o', rowsS_off f (o + lineN (c :: r) + 1) (o' + lineN (c :: r) + 1)]
theorem rows_off (o o' : Nat) (r : List UInt8) : TX (rowsG o r) = TX (rowsG o' r) := rowsS_off _ _ _ _
theorem NoLF.cons {c : UInt8} {s : List UInt8} (h : c.toNat ≠ 10) (hs : NoLF s) : NoLF (c :: s) := fun x hx => by
  rcases List.mem_cons.1 hx with rfl | hx
  · exact h
  · exact hs x hx
theorem split_lf : ∀ s : List UInt8, NoLF s ∨ ∃ u r, s = u ++ 10 :: r ∧ NoLF u
  | [] => .inl (fun x hx => by cases hx)
  | c :: s => by
    by_cases hc : c.toNat = 10
    · obtain rfl : c = 10 := UInt8.toNat_inj.1 hc
      exact .inr ⟨[], s, rfl, fun x hx => by cases hx⟩
    · rcases split_lf s with h | ⟨u, r, rfl, h⟩
      · exact .inl (h.cons hc)
      · exact .inr ⟨c :: u, r, rfl, h.cons hc⟩
theorem rows_app : ∀ (n : Nat) (s r : List UInt8) (o : Nat), s.length ≤ n → s.length ≤ 1000 → TX (rowsG o (s ++ 10 :: r)) = app2 (TX (rowsG 0 s)) (TX (rowsG 0 r))
  | n, s, r, o, hn, hl => by
    rcases split_lf s with h | ⟨u, v, rfl, h⟩
    · rw [rowsG_line o s r h hl, TX_line, rowsG_last 0 s h hl, TX_line, rows_off _ 0 r, rowL_off o 0 s, app2_assoc]
      exact congrArg _ (nil_app2 _).symm
    · simp only [List.length_append, List.length_cons] at hn hl
      cases n with
      | zero => omega
      | succ n =>
        rw [List.append_assoc, List.cons_append, rowsG_line o u _ h (by omega), TX_line, rowsG_line 0 u v h (by omega), TX_line, rows_app n v r _ (by omega) (by omega), app2_assoc, rows_off (0 + u.length + 1) 0 v, rowL_off o 0 u]
theorem blank_lf {b : UInt8} (h : isBl b = true) : b.toNat ≠ 10 := by
  unfold isBl at h
  simp only [Bool.or_eq_true, beq_iff_eq] at h
  omega
theorem rows_blank {b : UInt8} (hb : isBl b = true) (s : List UInt8) (hl : s.length < 1000) (o : Nat) : TX (rowsG o (b :: s)) = TX (rowsG 0 s) := by
  rcases split_lf s with h | ⟨u, r, rfl, h⟩
  · rw [rowsG_last o (b :: s) (h.cons (blank_lf hb)) (by simp; omega), TX_line, rowsG_last 0 s h (by omega), TX_line, rowL_cons, if_pos hb, rowL_off (o + 1) 0]
  · simp only [List.length_append, List.length_cons] at hl
    rw [← List.cons_append, rowsG_line o (b :: u) r (h.cons (blank_lf hb)) (by simp; omega), TX_line, rowsG_line 0 u r h (by omega), TX_line, rowL_cons, if_pos hb, rowL_off (o + 1) 0, rows_off _ (0 + u.length + 1) r]
theorem stepQ_app : ∀ (r N : List UInt8) (m : Nat) (x : Option UInt8), stepQ r = (m + 1, x) → stepQ (r ++ N) = (m + 1, x)
  | [], _, _, _, h => by cases h
  | c :: d :: e :: f :: r, N, m, x, h => by rw [← h]; rfl
  | [c], N, m, x, h => by
    unfold stepQ at h ⊢
    dsimp only [List.cons_append, List.nil_append] at h ⊢
    by_cases h1 : c.toNat = 34
    · rw [if_pos h1] at h ⊢; exact h
    · rw [if_neg h1] at h ⊢
      by_cases h2 : c.toNat < 32 ∨ 126 < c.toNat
      · rw [if_pos h2] at h; cases h
      · rw [if_neg h2] at h ⊢
        by_cases h3 : c.toNat ≠ 92
        · rw [if_pos h3] at h ⊢; exact h
        · rw [if_neg h3] at h; cases h
  | [c, d], N, m, x, h => by
    unfold stepQ at h ⊢
    dsimp only [List.cons_append, List.nil_append] at h ⊢
    by_cases h1 : c.toNat = 34
    · rw [if_pos h1] at h ⊢; exact h
    · rw [if_neg h1] at h ⊢
      by_cases h2 : c.toNat < 32 ∨ 126 < c.toNat
      · rw [if_pos h2] at h; cases h
      · rw [if_neg h2] at h ⊢
        by_cases h3 : c.toNat ≠ 92
        · rw [if_pos h3] at h ⊢; exact h
        · rw [if_neg h3] at h ⊢
          by_cases h4 : d.toNat = 34 ∨ d.toNat = 92
          · rw [if_pos h4] at h ⊢; exact h
          · rw [if_neg h4] at h; cases h
  | [c, d, e], N, m, x, h => by
    unfold stepQ at h ⊢
    dsimp only [List.cons_append, List.nil_append] at h ⊢
    by_cases h1 : c.toNat = 34
    · rw [if_pos h1] at h ⊢; exact h
    · rw [if_neg h1] at h ⊢
      by_cases h2 : c.toNat < 32 ∨ 126 < c.toNat
      · rw [if_pos h2] at h; cases h
      · rw [if_neg h2] at h ⊢
        by_cases h3 : c.toNat ≠ 92
        · rw [if_pos h3] at h ⊢; exact h
        · rw [if_neg h3] at h ⊢
          by_cases h4 : d.toNat = 34 ∨ d.toNat = 92
          · rw [if_pos h4] at h ⊢; exact h
          · rw [if_neg h4] at h; cases h
theorem quoF_app : ∀ (n k : Nat) (r N : List UInt8) (x : List UInt8 × Nat), n ≤ k → quoF n r = some x → quoF k (r ++ N) = some x
  | 0, _, _, _, _, _, h => by cases h
  | n + 1, 0, _, _, _, hk, _ => by omega
  | n + 1, k + 1, r, N, x, hk, h => by
    have hl := stepQ_len r
    cases hs : stepQ r with
    | mk m y =>
      rw [hs] at hl
      unfold quoF at h ⊢
      cases m with
      | zero => rw [hs] at h; cases h
      | succ m =>
        rw [stepQ_app r N m y hs]
        rw [hs] at h
        cases y with
        | none => exact h
        | some b =>
          dsimp only at h ⊢ hl
          rw [List.drop_append_of_le_length hl]
          cases hq : quoF n (r.drop (m + 1)) with
          | none => rw [hq] at h; cases h
          | some z =>
            rw [quoF_app n k _ N z (by omega) hq]
            rw [hq] at h
            exact h
theorem quo_app {r : List UInt8} (N : List UInt8) {x : List UInt8 × Nat} (h : quo r = some x) : quo (r ++ N) = some x := quoF_app _ _ r N x (by simp) h
theorem bareF_more : ∀ (r N : List UInt8) (n : Nat), bareF r = some n → bareF (r ++ 32 :: N) = some n
  | [], N, n, h => by cases h; rfl
  | c :: r, N, n, h => by
    rw [List.cons_append]
    unfold bareF at h ⊢
    by_cases h1 : isBl c = true
    · rw [if_pos h1] at h ⊢; exact h
    · rw [if_neg h1] at h ⊢
      by_cases h2 : isBw c = true
      · rw [if_pos h2] at h ⊢
        cases hb : bareF r with
        | none => rw [hb] at h; cases h
        | some k =>
          rw [bareF_more r N k hb]
          rw [hb] at h
          exact h
      · rw [if_neg h2] at h; cases h
theorem word_app (c : UInt8) (r N : List UInt8) (h : (wordS (c :: r)).2.2 ≠ 0) : wordS (c :: r ++ 32 :: N) = wordS (c :: r) ∧ (wordS (c :: r)).2.2 ≤ (c :: r).length := by
  unfold wordS wordT at h ⊢
  have e0 : ((c :: r ++ 32 :: N)[0]?).getD 0 = c := rfl
  have e1 : ((c :: r)[0]?).getD 0 = c := rfl
  rw [e0]
  rw [e1] at h ⊢
  by_cases hc : c.toNat = 34
  · rw [if_pos hc] at h
    rw [if_pos hc, if_pos hc]
    cases hq : quo r with
    | none =>
      have e : quoP (c :: r) 0 = ([], 0) := by
        unfold quoP
        rw [show List.drop (0 + 1) (c :: r) = r from rfl, hq]
        rfl
      rw [e] at h
      rw [if_pos (.inl rfl)] at h
      exact absurd rfl h
    | some x =>
      obtain ⟨s, m⟩ := x
      have e : quoP (c :: r) 0 = (s, m + 1) := by
        unfold quoP
        rw [show List.drop (0 + 1) (c :: r) = r from rfl, hq]
        rfl
      have e' : quoP (c :: r ++ 32 :: N) 0 = (s, m + 1) := by
        unfold quoP
        rw [show List.drop (0 + 1) (c :: r ++ 32 :: N) = r ++ 32 :: N from rfl, quo_app _ hq]
        rfl
      have hm := (quoF_len _ _ _ _ hq).2
      rw [e] at h ⊢
      rw [e']
      dsimp only at h ⊢
      by_cases hp : m + 1 = 0 ∨ 0 + (m + 1) < (c :: r).length ∧ isBl (((c :: r)[0 + (m + 1)]?).getD 0) = false
      · rw [if_pos hp] at h; exact absurd rfl h
      · rw [if_neg hp]
        refine ⟨if_neg (fun hp' => hp ?_), by simp; omega⟩
        rcases hp' with hp' | ⟨h1, h2⟩
        · omega
        · by_cases hlt : 0 + (m + 1) < (c :: r).length
          · rw [List.getElem?_append_left hlt] at h2
            exact .inr ⟨hlt, h2⟩
          · exfalso
            have he : 0 + (m + 1) = (c :: r).length := by simp at hlt ⊢; omega
            rw [he, List.getElem?_append_right (Nat.le_refl _), Nat.sub_self] at h2
            cases h2
  · rw [if_neg hc] at h
    rw [if_neg hc, if_neg hc]
    rw [List.drop_zero] at h
    rw [List.drop_zero, List.drop_zero]
    cases hb : bareF (c :: r) with
    | none => rw [hb] at h; exact absurd rfl h
    | some n =>
      have hn := bareF_le _ _ hb
      rw [bareF_more _ N n hb]
      refine ⟨?_, hn⟩
      unfold wordR
      dsimp only
      rw [List.drop_zero, List.drop_zero, List.take_append_of_le_length hn]
theorem rowL_rem : ∀ (n : Nat) (r N : List UInt8) (o : Nat) (ws : List Wd), r.length ≤ n → rowL o r = .inr ws → rowL o (r ++ 32 :: 35 :: N) = .inr ws
  | _, [], N, o, ws, _, h => by
    rw [List.nil_append, rowL_cons, if_pos (by rfl), rowL_cons, if_neg (by decide), if_pos (by rfl)]
    exact h
  | 0, c :: r, _, _, _, hn, _ => by simp at hn
  | n + 1, c :: r, N, o, ws, hn, h => by
    simp only [List.length_cons] at hn
    have ha := fun h => word_app c r (35 :: N) h
    rw [List.cons_append] at ha ⊢
    rw [rowL_cons] at h ⊢
    by_cases h1 : isBl c = true
    · rw [if_pos h1] at h ⊢
      exact rowL_rem n r N _ _ (by omega) h
    · rw [if_neg h1] at h ⊢
      by_cases h2 : c.toNat = 35
      · rw [if_pos h2] at h ⊢; exact h
      · rw [if_neg h2] at h ⊢
        by_cases h3 : (wordS (c :: r)).2.2 = 0
        · rw [if_pos h3] at h; cases h
        · rw [if_neg h3] at h
          obtain ⟨e, hle⟩ := ha h3
          rw [e, if_neg h3]
          rw [← List.cons_append, List.drop_append_of_le_length hle]
          cases hr : rowL (o + (wordS (c :: r)).2.2) ((c :: r).drop (wordS (c :: r)).2.2) with
          | inl p => rw [hr] at h; cases h
          | inr ws' =>
            rw [rowL_rem n _ N _ ws' (by rw [List.length_drop]; simp; omega) hr]
            rw [hr] at h
            exact h
theorem app2_some {x y : Option (List (List UInt8))} {t : List (List UInt8)} (h : app2 x y = some t) : ∃ a b, x = some a ∧ y = some b ∧ t = a ++ b := by
  cases x with
  | none => cases h
  | some a =>
    cases y with
    | none => cases h
    | some b => exact ⟨a, b, rfl, rfl, by cases h; rfl⟩
theorem rows_rem (N : List UInt8) (hN : NoLF N) (hNl : N.length ≤ 90) : ∀ (n : Nat) (s : List UInt8) (o : Nat) (T : List (List UInt8)), s.length ≤ n → s.length ≤ 900 → TX (rowsG o s) = some T → TX (rowsG o (s ++ 32 :: 35 :: N)) = some T
  | n, s, o, T, hn, hl, h => by
    rcases split_lf s with hs | ⟨u, v, rfl, hu⟩
    · have hs2 : NoLF (s ++ 32 :: 35 :: N) := hs.app ((hN.cons (by decide)).cons (by decide))
      rw [rowsG_last o _ hs2 (by simp; omega)]
      rw [rowsG_last o s hs (by omega)] at h
      cases hr : rowL o s with
      | inl p => rw [hr] at h; cases h
      | inr ws =>
        rw [rowL_rem _ s N o ws (Nat.le_refl _) hr]
        rw [hr] at h
        exact h
    · simp only [List.length_append, List.length_cons] at hn hl
      cases n with
      | zero => omega
      | succ n =>
        rw [rowsG_line o u v hu (by omega), TX_line] at h
        obtain ⟨a, b, h1, h2, rfl⟩ := app2_some h
        rw [List.append_assoc, List.cons_append, rowsG_line o u _ hu (by omega), TX_line, h1, rows_rem N hN hNl n v _ b (by omega) (by omega) h2]
        rfl
def tail1 : List UInt8 := [10, 9, 35, 32, 34, 32, 110, 111, 32, 119, 111, 114, 100, 10, 32, 10, 32, 32]
def tail2 : List UInt8 := [32, 35, 32, 97, 110, 100, 32, 34]
theorem remark_rows : TX (rowsG 0 [9, 35, 32, 34, 32, 110, 111, 32, 119, 111, 114, 100]) = some [] := by decide +kernel
theorem blank_rows : TX (rowsG 0 [32]) = some [] := by decide +kernel
theorem TX_some {x : (Nat × Nat) ⊕ List Rw} {T : List (List UInt8)} (h : TX x = some T) : ∃ rs, x = .inr rs ∧ textsL rs = T := by
  cases x with
  | inl p => cases h
  | inr rs => exact ⟨rs, rfl, by cases h; rfl⟩
/-- Blanks, empty lines and remarks. -/
theorem blanks_more {s t : List UInt8} {ra rb : List Rw} (hs : s.length ≤ 400) (ht : t.length ≤ 400) (h1 : rowsL s = .inr ra) (h2 : rowsL t = .inr rb) :
    ∃ rm, rowsL ([32, 9] ++ s ++ tail1 ++ t ++ tail2) = .inr rm ∧ textsL rm = textsL ra ++ textsL rb := by
  have g1 : rowsG 0 s = .inr ra := by unfold rowsL at h1; rwa [if_neg (by omega)] at h1
  have g2 : rowsG 0 t = .inr rb := by unfold rowsL at h2; rwa [if_neg (by omega)] at h2
  have e : [32, 9] ++ s ++ tail1 ++ t ++ tail2 = (32 :: 9 :: s) ++ 10 :: ([9, 35, 32, 34, 32, 110, 111, 32, 119, 111, 114, 100] ++ 10 :: ([32] ++ 10 :: (32 :: 32 :: (t ++ tail2)))) := by simp [tail1]
  have hm : TX (rowsG 0 ((32 :: 9 :: s) ++ 10 :: ([9, 35, 32, 34, 32, 110, 111, 32, 119, 111, 114, 100] ++ 10 :: ([32] ++ 10 :: (32 :: 32 :: (t ++ tail2)))))) = some (textsL ra ++ textsL rb) := by
    have k1 : TX (rowsG 0 (32 :: 9 :: s)) = some (textsL ra) := by
      rw [rows_blank (by rfl) _ (by simp; omega), rows_blank (by rfl) _ (by omega), g1]
      rfl
    have k2 : TX (rowsG 0 (32 :: 32 :: (t ++ tail2))) = some (textsL rb) := by
      rw [rows_blank (by rfl) _ (by simp [tail2]; omega), rows_blank (by rfl) _ (by simp [tail2]; omega)]
      exact rows_rem [32, 97, 110, 100, 32, 34] (by unfold NoLF; decide) (by decide) _ t 0 _ (Nat.le_refl _) (by omega) (by rw [g2]; rfl)
    rw [rows_app _ _ _ _ (Nat.le_refl _) (by simp; omega), rows_app _ _ _ _ (Nat.le_refl _) (by simp), rows_app _ _ _ _ (Nat.le_refl _) (by simp), k1, k2, remark_rows, blank_rows]
    rfl
  rw [e]
  obtain ⟨rm, g3, g4⟩ := TX_some hm
  refine ⟨rm, ?_, g4⟩
  unfold rowsL
  rw [if_neg (by simp [tail2]; omega)]
  exact g3
/-- Two texts, one behind the other. -/
theorem blanks_both {s t : List UInt8} {ra rb : List Rw} (hs : s.length ≤ 400) (ht : t.length ≤ 400) (h1 : rowsL s = .inr ra) (h2 : rowsL t = .inr rb) :
    ∃ rm, rowsL (s ++ [10] ++ t) = .inr rm ∧ textsL rm = textsL ra ++ textsL rb := by
  have g1 : rowsG 0 s = .inr ra := by unfold rowsL at h1; rwa [if_neg (by omega)] at h1
  have g2 : rowsG 0 t = .inr rb := by unfold rowsL at h2; rwa [if_neg (by omega)] at h2
  have hm : TX (rowsG 0 (s ++ 10 :: t)) = some (textsL ra ++ textsL rb) := by
    rw [rows_app _ _ _ _ (Nat.le_refl _) (by omega), g1, g2]
    rfl
  obtain ⟨rm, g3, g4⟩ := TX_some hm
  refine ⟨rm, ?_, g4⟩
  unfold rowsL
  rw [if_neg (by simp; omega), show s ++ [10] ++ t = s ++ 10 :: t by simp]
  exact g3
end Go.Proofs.YtacceiloggnekaaDoor
