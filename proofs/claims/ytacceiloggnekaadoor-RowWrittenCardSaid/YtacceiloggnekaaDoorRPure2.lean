/-
  What is written is read as one word; rows joined; blanks and remarks; two texts. No condition.
-/
import Derived.Test.YtacceiloggnekaaDoorRPure
import Derived.Test.YtacceiloggnekaaDoorRTexts
namespace Go.Proofs.YtacceiloggnekaaDoor
open Go.RowKit
/-- Nothing, or something that begins with a blank. -/
def Ends (r : List UInt8) : Prop := r = [] ∨ ∃ c r', r = c :: r' ∧ isBl c = true
theorem bw_bl {c : UInt8} (h : isBw c = true) : isBl c = false := by
  unfold isBw at h
  unfold isBl
  simp only [Bool.and_eq_true, decide_eq_true_eq] at h
  have := h.1.1
  rw [Bool.or_eq_false_iff]
  exact ⟨by rw [beq_eq_false_iff_ne]; omega, by rw [beq_eq_false_iff_ne]; omega⟩
theorem bareF_ends : ∀ {r : List UInt8}, Ends r → bareF r = some 0
  | _, .inl rfl => rfl
  | _, .inr ⟨c, r', rfl, hc⟩ => by unfold bareF; rw [if_pos hc]
theorem bareF_app : ∀ {s r : List UInt8}, s.all isBw = true → Ends r → bareF (s ++ r) = some s.length
  | [], r, _, hr => bareF_ends hr
  | c :: s, r, h, hr => by
    rw [List.all_cons, Bool.and_eq_true] at h
    show bareF (c :: (s ++ r)) = _
    unfold bareF
    rw [if_neg (by rw [bw_bl h.1]; simp), if_pos h.1, bareF_app h.2 hr]
    rfl
theorem ends_at {s r : List UInt8} (hr : Ends r) (h : s.length < (s ++ r).length) : isBl (((s ++ r)[s.length]?).getD 0) = true := by
  rcases hr with rfl | ⟨c, r', rfl, hc⟩
  · simp at h
  · rw [List.getElem?_append_right (Nat.le_refl _), Nat.sub_self]
    exact hc
theorem writeL_ne (s : List UInt8) : writeL s ≠ [] := by
  unfold writeL
  split
  · rename_i h
    intro e
    rw [e] at h
    cases h
  · simp
theorem bareV_all {s : List UInt8} (h : bareV s = true) : s.all isBw = true ∧ ∃ c r, s = c :: r ∧ c.toNat ≠ 35 := by
  cases s with
  | nil => cases h
  | cons c r =>
    rw [bareV_of (by simp)] at h
    rw [Bool.and_eq_true] at h
    exact ⟨h.2, c, r, rfl, by have := h.1; simpa using this⟩
/-- What is written is one word, whatever blank or end stands behind it. -/
theorem word_written (s r : List UInt8) (hr : Ends r) : wordS (writeL s ++ r) = (s, !(bareV s), (writeL s).length) := by
  unfold wordS wordT
  cases hb : bareV s
  · have hw : writeL s = 34 :: escL s ++ [34] := by unfold writeL; rw [hb]; rfl
    have e0 : writeL s ++ r = 34 :: (escL s ++ 34 :: r) := by rw [hw]; simp
    have hq : quoP (34 :: (escL s ++ 34 :: r)) 0 = (s, (escL s).length + 1 + 1) := by
      unfold quoP
      rw [show List.drop (0 + 1) (34 :: (escL s ++ 34 :: r)) = escL s ++ 34 :: r from rfl, quo_esc s r]
      rfl
    have hl : (writeL s).length = (escL s).length + 1 + 1 := by rw [hw]; simp
    rw [e0]
    split
    · rw [hq]
      dsimp only
      split
      · rename_i h
        exfalso
        rcases h with h | ⟨h1, h2⟩
        · omega
        · have e1 : (34 : UInt8) :: (escL s ++ 34 :: r) = (34 :: escL s ++ [34]) ++ r := by simp
          have e2 : (34 :: escL s ++ [34] : List UInt8).length = (escL s).length + 1 + 1 := by simp
          rw [Nat.zero_add] at h1 h2
          rw [e1, ← e2] at h1 h2
          rw [ends_at hr h1] at h2
          cases h2
      · rw [hl]; rfl
    · rename_i h
      exact absurd rfl h
  · obtain ⟨h1, c, r', rfl, hc⟩ := bareV_all hb
    have hw : writeL (c :: r') = c :: r' := by unfold writeL; rw [hb]; rfl
    have hcw : isBw c = true := by rw [List.all_cons, Bool.and_eq_true] at h1; exact h1.1
    have h34 : c.toNat ≠ 34 := by
      unfold isBw at hcw
      simp only [Bool.and_eq_true] at hcw
      have := hcw.2
      simpa using this
    rw [hw, if_neg (by exact h34), List.drop_zero, bareF_app h1 hr]
    unfold wordR
    rw [List.drop_zero]
    show (List.take (c :: r').length (c :: r' ++ r), false, (c :: r').length) = _
    rw [List.take_left' rfl]
    rfl
theorem writeL_first (s : List UInt8) : ∃ c r, writeL s = c :: r ∧ isBl c = false ∧ c.toNat ≠ 35 := by
  cases hb : bareV s
  · exact ⟨34, escL s ++ [34], by unfold writeL; rw [hb]; rfl, rfl, by decide⟩
  · obtain ⟨h1, c, r, rfl, hc⟩ := bareV_all hb
    rw [List.all_cons, Bool.and_eq_true] at h1
    exact ⟨c, r, by unfold writeL; rw [hb]; rfl, bw_bl h1.1, hc⟩
theorem row_written (o : Nat) (s r : List UInt8) (hr : Ends r) : rowL o (writeL s ++ r) = consR ⟨(o : Int), s, !(bareV s)⟩ (rowL (o + (writeL s).length) r) := by
  obtain ⟨c, t, e, h1, h2⟩ := writeL_first s
  have hw := word_written s r hr
  have hl : (writeL s).length ≠ 0 := by rw [e]; simp
  rw [e, List.cons_append] at hw ⊢
  rw [rowL_cons, h1, if_neg (by simp), if_neg h2, hw]
  dsimp only
  rw [← e]
  rw [if_neg hl, e]
  rw [show List.drop (c :: t).length (c :: (t ++ r)) = r from by rw [← List.cons_append, List.drop_left']; rfl]
def tailJ (ws : List Wd) : List UInt8 := ws.flatMap fun y => 32 :: writeL y.text
theorem tailJ_ends (ws : List Wd) : Ends (tailJ ws) := by
  cases ws with
  | nil => exact .inl rfl
  | cons y ws => exact .inr ⟨32, writeL y.text ++ tailJ ws, by simp [tailJ], rfl⟩
theorem row_tail : ∀ (ws : List Wd) (o : Nat), ∃ ws', rowL o (tailJ ws) = .inr ws' ∧ wordsT ws' = wordsT ws
  | [], o => ⟨[], rfl, rfl⟩
  | y :: ws, o => by
    obtain ⟨ws', h1, h2⟩ := row_tail ws (o + 1 + (writeL y.text).length)
    refine ⟨⟨((o + 1 : Nat) : Int), y.text, !(bareV y.text)⟩ :: ws', ?_, by simp [wordsT] at h2 ⊢; exact h2⟩
    have e : tailJ (y :: ws) = 32 :: (writeL y.text ++ tailJ ws) := by simp [tailJ]
    rw [e, rowL_cons, if_pos (by rfl), row_written _ _ _ (tailJ_ends ws), h1]
    rfl
theorem row_joined (ws : List Wd) (o : Nat) : ∃ ws', rowL o (joinT ws) = .inr ws' ∧ wordsT ws' = wordsT ws := by
  cases ws with
  | nil => exact ⟨[], rfl, rfl⟩
  | cons y ws =>
    obtain ⟨ws', h1, h2⟩ := row_tail ws (o + (writeL y.text).length)
    refine ⟨⟨(o : Int), y.text, !(bareV y.text)⟩ :: ws', ?_, by simp [wordsT] at h2 ⊢; exact h2⟩
    show rowL o (writeL y.text ++ tailJ ws) = _
    rw [row_written _ _ _ (tailJ_ends ws), h1]
    rfl
def NoLF (u : List UInt8) : Prop := ∀ b ∈ u, b.toNat ≠ 10
theorem NoLF.app {a b : List UInt8} (h1 : NoLF a) (h2 : NoLF b) : NoLF (a ++ b) := fun x hx => by
  rcases List.mem_append.1 hx with h | h
  · exact h1 x h
  · exact h2 x h
theorem escB_lf : ∀ a : Fin 256, (escB (UInt8.ofNat a.val)).all (fun x => x.toNat != 10) = true := by decide +kernel
theorem escB_nolf (b : UInt8) : NoLF (escB b) := fun x hx => by
  have h := escB_lf ⟨b.toNat, b.toNat_lt⟩
  simp only [UInt8.ofNat_toNat] at h
  have := List.all_eq_true.1 h x hx
  simpa using this
theorem escL_nolf : ∀ s : List UInt8, NoLF (escL s)
  | [], x, hx => by simp [escL] at hx
  | b :: s, x, hx => by
    rw [escL_cons] at hx
    exact (escB_nolf b).app (escL_nolf s) x hx
theorem writeL_nolf (s : List UInt8) : NoLF (writeL s) := by
  unfold writeL
  cases hb : bareV s
  · intro x hx
    simp only [Bool.false_eq_true, if_false, List.cons_append, List.mem_cons, List.mem_append, List.not_mem_nil, or_false] at hx
    rcases hx with rfl | hx | rfl
    · decide
    · exact escL_nolf s x hx
    · decide
  · intro x hx
    rw [if_pos rfl] at hx
    have h := List.all_eq_true.1 (bareV_all hb).1 x hx
    unfold isBw at h
    simp only [Bool.and_eq_true, decide_eq_true_eq] at h
    have := h.1.1
    omega
theorem tailJ_nolf : ∀ ws : List Wd, NoLF (tailJ ws)
  | [], x, hx => by simp [tailJ] at hx
  | y :: ws, x, hx => by
    have e : tailJ (y :: ws) = 32 :: (writeL y.text ++ tailJ ws) := by simp [tailJ]
    rw [e] at hx
    rcases List.mem_cons.1 hx with rfl | hx
    · decide
    · exact (writeL_nolf y.text).app (tailJ_nolf ws) x hx
theorem joinT_nolf (ws : List Wd) : NoLF (joinT ws) := by
  cases ws with
  | nil => intro x hx; cases hx
  | cons y ws => exact (writeL_nolf y.text).app (tailJ_nolf ws)
theorem lineN_nolf : ∀ {u : List UInt8} (r : List UInt8), NoLF u → lineN (u ++ r) = u.length + lineN r
  | [], r, _ => by simp
  | c :: u, r, h => by
    show lineN (c :: (u ++ r)) = _
    rw [show lineN (c :: (u ++ r)) = if c.toNat = 10 then 0 else lineN (u ++ r) + 1 from rfl, if_neg (h c (by simp)), lineN_nolf r (fun x hx => h x (by simp [hx]))]
    simp only [List.length_cons]
    omega
theorem rowsG_line (o : Nat) (u r : List UInt8) (h : NoLF u) (hl : u.length ≤ 1000) : rowsG o (u ++ 10 :: r) = lineR o (rowL o u) (rowsG (o + u.length + 1) r) := by
  have hn : lineN (u ++ 10 :: r) = u.length := by rw [lineN_nolf _ h]; rfl
  rw [rowsG_step o (u ++ 10 :: r) (by simp), hn, if_neg (by omega), List.take_left' rfl]
  congr 2
  rw [show u ++ 10 :: r = (u ++ [10]) ++ r by simp, List.drop_left' (by simp)]
theorem rowsG_last (o : Nat) (u : List UInt8) (h : NoLF u) (hl : u.length ≤ 1000) : rowsG o u = lineR o (rowL o u) (.inr []) := by
  cases u with
  | nil => rfl
  | cons c u =>
    have hn : lineN (c :: u) = (c :: u).length := by have := lineN_nolf [] h; rw [List.append_nil] at this; rw [this]; rfl
    rw [rowsG_step o (c :: u) (by simp), hn, if_neg (by omega), List.take_length, List.drop_eq_nil_of_le (by omega), rowsG_nil]
theorem joinT_pos {ws : List Wd} (h : ws.length ≠ 0) : joinT ws ≠ [] := by
  cases ws with
  | nil => exact absurd rfl h
  | cons y ws =>
    intro e
    have : writeL y.text ++ tailJ ws = [] := e
    rw [List.append_eq_nil_iff] at this
    exact writeL_ne _ this.1
theorem wordsT_length (ws : List Wd) : (wordsT ws).length = ws.length := by simp [wordsT]
/-- The text of rows is read as rows with the same texts. -/
theorem text_rows : ∀ (rs : List Rw) (acc T : List UInt8), acc.length ≤ 20000 → textG acc rs = .inr T → T.length ≤ 20000 ∧ ∃ U, T = acc ++ U ∧ ∀ o, ∃ rs', rowsG o U = .inr rs' ∧ textsL rs' = textsL rs
  | [], acc, T, ha, h => by
    cases h
    exact ⟨ha, [], by simp, fun o => ⟨[], rfl, rfl⟩⟩
  | r :: rs, acc, T, ha, h => by
    unfold textG at h
    split at h
    · cases h
    · rename_i hw
      split at h
      · cases h
      · rename_i hb
        obtain ⟨h1, U, h2, h3⟩ := text_rows rs (acc ++ joinT r.words ++ [10]) T (by simp; omega) h
        refine ⟨h1, joinT r.words ++ 10 :: U, by rw [h2]; simp, fun o => ?_⟩
        obtain ⟨ws', hr, ht⟩ := row_joined r.words o
        obtain ⟨rs', h4, h5⟩ := h3 (o + (joinT r.words).length + 1)
        have hwl : ws'.length = r.words.length := by have := congrArg List.length ht; rwa [wordsT_length, wordsT_length] at this
        refine ⟨⟨(o : Int), ws'⟩ :: rs', ?_, ?_⟩
        · rw [rowsG_line o _ U (joinT_nolf _) (by omega), hr, h4]
          show Sum.inr (if ws'.length = 0 then _ else _) = _
          rw [if_neg (by omega)]
        · show rowMark :: (wordsT ws' ++ textsL rs') = rowMark :: (wordsT r.words ++ textsL rs)
          rw [ht, h5]
theorem text_back {rs : List Rw} {T : List UInt8} (h : textL rs = .inr T) : ∃ rs', rowsL T = .inr rs' ∧ textsL rs' = textsL rs := by
  obtain ⟨h1, U, h2, h3⟩ := text_rows rs [] T (by simp) h
  obtain ⟨rs', h4, h5⟩ := h3 0
  rw [List.nil_append] at h2
  subst h2
  exact ⟨rs', by unfold rowsL; rw [if_neg (by omega)]; exact h4, h5⟩
theorem text_long : ∀ (rs : List Rw) (acc : List UInt8) (e : Nat), (∀ r ∈ rs, r.words.length ≠ 0) → textG acc rs = .inl e → e = 4
  | [], acc, e, _, h => by cases h
  | r :: rs, acc, e, hw, h => by
    unfold textG at h
    rw [if_neg (hw r (by simp))] at h
    split at h
    · cases h; rfl
    · exact text_long rs _ e (fun x hx => hw x (by simp [hx])) h
/-- What is written is read as one word with this text. -/
theorem written_one {s : List UInt8} (hs : s.length ≤ 200) : rowsL (writeL s) = .inr [⟨0, [⟨0, s, !(bareV s)⟩]⟩] := by
  have hl := writeL_len s
  unfold rowsL
  rw [if_neg (by omega), rowsG_last 0 _ (writeL_nolf s) (by omega)]
  have := row_written 0 s [] (.inl rfl)
  rw [List.append_nil] at this
  rw [this, rowL_nil]
  rfl
theorem writeL_inj {s t : List UInt8} (hs : s.length ≤ 200) (ht : t.length ≤ 200) (h : writeL s = writeL t) : s = t := by
  have h1 := written_one hs
  rw [h, written_one ht] at h1
  injection h1 with h1
  injection h1 with h1
  injection h1 with _ h1
  injection h1 with h1
  injection h1 with _ h1
  exact h1.symm
theorem writeL_self (s : List UInt8) : writeL s = s ↔ bareV s = true := by
  constructor
  · intro h
    cases hb : bareV s
    · exfalso
      have e : writeL s = 34 :: escL s ++ [34] := by unfold writeL; rw [hb]; rfl
      have hl : s.length ≤ (escL s).length := by
        clear h hb e
        induction s with
        | nil => simp
        | cons b s ih =>
          rw [escL_cons, List.length_append]
          have := (escB_len b).1
          simp only [List.length_cons]
          omega
      have := congrArg List.length (e.symm.trans h)
      simp at this
      omega
    · rfl
  · intro h
    unfold writeL
    rw [h]
    rfl
end Go.Proofs.YtacceiloggnekaaDoor
