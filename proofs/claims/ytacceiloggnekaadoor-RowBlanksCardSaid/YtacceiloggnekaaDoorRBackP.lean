/-
  What RowBack's road may be: the faults' numbers; the text of rows, and what is read from it. No condition.
-/
import Derived.Test.YtacceiloggnekaaDoorRPure2
namespace Go.Proofs.YtacceiloggnekaaDoor
open Go.RowKit
theorem rowsS_err : ∀ (f o : Nat) (r : List UInt8) (x : Nat × Nat), rowsS f o r = .inl x → x.1 = 3 ∨ x.1 = 4
  | 0, _, _, x, h => by cases h
  | f + 1, _, [], x, h => by cases h
  | f + 1, o, c :: r, x, h => by
    unfold rowsS at h
    split at h
    · cases h; exact .inr rfl
    · cases hl : rowL o ((c :: r).take (lineN (c :: r))) with
      | inl p => rw [hl] at h; cases h; exact .inl rfl
      | inr ws =>
        rw [hl] at h
        cases hr : rowsS f (o + lineN (c :: r) + 1) ((c :: r).drop (lineN (c :: r) + 1)) with
        | inl p => rw [hr] at h; cases h; exact rowsS_err f _ _ _ hr
        | inr rs' => rw [hr] at h; cases h
theorem rowsL_err {l : List UInt8} {x : Nat × Nat} (h : rowsL l = .inl x) : x.1 = 3 ∨ x.1 = 4 := by
  unfold rowsL at h
  split at h
  · cases h; exact .inr rfl
  · exact rowsS_err _ _ _ _ h
/-- What the text of rows is: too long, or a text that is read as the same words. -/
def TextAlt (rs : List Rw) : Prop := textL rs = .inl 4 ∨ ∃ T rs', textL rs = .inr T ∧ T.length < 900000 ∧ rowsL T = .inr rs' ∧ rs'.length < 100000 ∧ (∀ r ∈ rs', r.words.length < 100000) ∧ textsL rs' = textsL rs
theorem text_alt {rs : List Rw} (h : ∀ r ∈ rs, r.words.length ≠ 0) : TextAlt rs := by
  cases ht : textL rs with
  | inl e => exact .inl (ht ▸ congrArg Sum.inl (text_long rs [] e h ht))
  | inr T =>
    obtain ⟨rs', h1, h2⟩ := text_back ht
    obtain ⟨h3, h4⟩ := rowsL_small h1
    exact .inr ⟨T, rs', ht, by omega, h1, by have := h3.1; omega, h3.words, h2⟩
/-- What a text is: faulty, or rows that are small and whose text is as above. -/
def ReadAlt (l : List UInt8) : Prop := (∃ a b, rowsL l = .inl (a, b) ∧ (a = 3 ∨ a = 4)) ∨ ∃ rs, rowsL l = .inr rs ∧ Fair rs ∧ rs.length < 100000 ∧ (∀ r ∈ rs, r.words.length < 100000) ∧ (textsL rs).length ≤ l.length * 1001 ∧ TextAlt rs
theorem read_alt (l : List UInt8) : ReadAlt l := by
  cases hr : rowsL l with
  | inl x => exact .inl ⟨x.1, x.2, hr, rowsL_err hr⟩
  | inr rs =>
    obtain ⟨h3, h4⟩ := rowsL_small hr
    exact .inr ⟨rs, hr, h3.fair, by have := h3.1; omega, h3.words, Nat.le_trans (textsL_len rs 1001 fun r hx => by have := (h3.2 r hx).2.1; omega) (Nat.mul_le_mul_right _ h3.1), text_alt fun r hx => by have := (h3.2 r hx).1; omega⟩
theorem textV_long {rs : List Rw} (h : textL rs = .inl 4) : textV rs = .tuple #[.string ⟨#[]⟩, .int .i64 4] := by unfold textV; rw [h]; rfl
theorem textV_ok {rs : List Rw} {T : List UInt8} (h : textL rs = .inr T) : textV rs = .tuple #[.string ⟨T.toArray⟩, .int .i64 0] := by unfold textV; rw [h]; rfl
/-- A row that RowBack takes. -/
def okR (r : Rw) : Bool := decide (1 ≤ r.words.length) && (decide (r.words.length ≤ 12) && r.words.all fun x => decide (x.text.length ≤ 60))
theorem okR_all {rs : List Rw} (h : rs.all okR = true) : Fair rs ∧ (∀ r ∈ rs, r.words.length < 100000) ∧ (∀ r ∈ rs, r.words.length ≠ 0) ∧ (textsL rs).length ≤ rs.length * 13 := by
  have h1 : ∀ r ∈ rs, 1 ≤ r.words.length ∧ r.words.length ≤ 12 ∧ ∀ x ∈ r.words, x.text.length ≤ 60 := fun r hr => by
    have := List.all_eq_true.1 h r hr
    unfold okR at this
    simp only [Bool.and_eq_true, decide_eq_true_eq, List.all_eq_true] at this
    exact this
  exact ⟨fun r hr => ⟨by have := h1 r hr; omega, fun x hx => by have := (h1 r hr).2.2 x hx; omega⟩, fun r hr => by have := h1 r hr; omega, fun r hr => by have := h1 r hr; omega, textsL_len rs 13 fun r hr => by have := h1 r hr; omega⟩
/-- A store of what the cell holds keeps everything. -/
theorem below_same {t : TypeId} {w : World} {B : Nat} {cs : List Value} (h : CBlk t w B cs) (i : Nat) (v : Value) (hv : cs.set i v = cs) {n : Nat} {a : World} (hb : Below n a w) : Below n a (w.setCell ⟨B, i, none⟩ v) := by
  refine hb.trans ⟨rfl, rfl, rfl, by simp [World.setCell], fun k _ => ?_⟩
  by_cases hk : k = B
  · subst hk
    have h1 := h.set i v
    rw [hv] at h1
    exact h1.trans h.symm
  · exact Below.heap_setCell _ _ _ _ hk
end Go.Proofs.YtacceiloggnekaaDoor
