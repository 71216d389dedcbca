/-
  How great the rows of a text are. No condition.
-/
import Derived.Test.YtacceiloggnekaaDoorRRows
import Derived.Test.YtacceiloggnekaaDoorRText
namespace Go.Proofs.YtacceiloggnekaaDoor
open Go.RowKit
theorem quoF_text : ∀ (n : Nat) (r s : List UInt8) (m : Nat), quoF n r = some (s, m) → s.length ≤ m
  | 0, r, s, m, h => by cases h
  | n + 1, r, s, m, h => by
    unfold quoF at h
    split at h
    · cases h
    · cases h; simp
    · rename_i k b hst
      cases hq : quoF n (r.drop (k + 1)) with
      | none => rw [hq] at h; cases h
      | some x =>
        obtain ⟨s', m'⟩ := x
        rw [hq] at h
        have := quoF_text n _ s' m' hq
        cases h
        simp
        omega
theorem wordT_text {l : List UInt8} {k : Nat} (h : k < l.length) : (wordT l k).1.length ≤ l.length := by
  unfold wordT
  split
  · split
    · exact Nat.zero_le _
    · unfold quoP quoR
      cases hq : quo (l.drop (k + 1)) with
      | none => exact Nat.zero_le _
      | some x =>
        have h1 := quoF_text _ _ x.1 x.2 hq
        have h2 := (quoF_len _ _ x.1 x.2 hq).2
        rw [List.length_drop] at h2
        show ([] ++ x.1).length ≤ _
        simp
        omega
  · cases hb : bareF (l.drop k) with
    | none => exact Nat.zero_le _
    | some n =>
      show ((l.drop k).take n).length ≤ _
      rw [List.length_take, List.length_drop]
      omega
theorem rowS_texts : ∀ (f o : Nat) (r : List UInt8) (ws : List Wd), rowS f o r = .inr ws → ∀ x ∈ ws, x.text.length ≤ r.length
  | 0, _, _, ws, h, x, hx => by cases h; cases hx
  | f + 1, _, [], ws, h, x, hx => by cases h; cases hx
  | f + 1, o, c :: r, ws, h, x, hx => by
    unfold rowS at h
    split at h
    · have := rowS_texts f _ _ ws h x hx
      simp; omega
    · split at h
      · cases h; cases hx
      · split at h
        · cases h
        · cases hr : rowS f (o + (wordS (c :: r)).2.2) ((c :: r).drop (wordS (c :: r)).2.2) with
          | inl p => rw [hr] at h; cases h
          | inr ws' =>
            rw [hr] at h
            cases h
            rcases List.mem_cons.1 hx with rfl | hx
            · exact wordT_text (l := c :: r) (k := 0) (by simp)
            · have := rowS_texts f _ _ ws' hr x hx
              rw [List.length_drop] at this
              omega
/-- Every row is small. -/
def Rows3 (rs : List Rw) (M : Nat) : Prop := rs.length ≤ M ∧ ∀ r ∈ rs, 0 < r.words.length ∧ r.words.length ≤ 1000 ∧ ∀ x ∈ r.words, x.text.length ≤ 1000
theorem rowsS_small : ∀ (f o : Nat) (r : List UInt8) (rs : List Rw), rowsS f o r = .inr rs → Rows3 rs r.length
  | 0, _, _, rs, h => by cases h; exact ⟨Nat.zero_le _, fun x hx => by cases hx⟩
  | f + 1, _, [], rs, h => by cases h; exact ⟨Nat.le_refl _, fun x hx => by cases hx⟩
  | f + 1, o, c :: r, rs, h => by
    unfold rowsS at h
    split at h
    · cases h
    · rename_i hn
      cases hl : rowL o ((c :: r).take (lineN (c :: r))) with
      | inl p => rw [hl] at h; cases h
      | inr ws =>
        rw [hl] at h
        cases hr : rowsS f (o + lineN (c :: r) + 1) ((c :: r).drop (lineN (c :: r) + 1)) with
        | inl p => rw [hr] at h; cases h
        | inr rs' =>
          rw [hr] at h
          obtain ⟨h1, h2⟩ := rowsS_small f _ _ rs' hr
          have h3 := rowL_length _ _ ws hl
          have h4 := rowS_texts _ _ _ ws hl
          rw [List.length_take] at h3 h4
          have e : rs = if ws.length = 0 then rs' else ⟨(o : Int), ws⟩ :: rs' := by cases h; rfl
          rw [List.length_drop, List.length_cons] at h1
          split at e
          · subst e
            exact ⟨by simp; omega, h2⟩
          · rename_i h0
            subst e
            refine ⟨by simp; omega, fun x hx => ?_⟩
            rcases List.mem_cons.1 hx with rfl | hx
            · exact ⟨by show 0 < ws.length; omega, by show ws.length ≤ 1000; omega, fun y hy => by have := h4 y hy; omega⟩
            · exact h2 x hx
theorem rowsL_small {l : List UInt8} {rs : List Rw} (h : rowsL l = .inr rs) : Rows3 rs l.length ∧ l.length ≤ 20000 := by
  unfold rowsL at h
  split at h
  · cases h
  · rename_i h1
    exact ⟨rowsS_small _ _ _ rs h, by omega⟩
theorem Rows3.fair {rs : List Rw} {M : Nat} (h : Rows3 rs M) : Fair rs := fun r hr => ⟨by have := (h.2 r hr).2.1; omega, fun x hx => by have := (h.2 r hr).2.2 x hx; omega⟩
theorem Rows3.words {rs : List Rw} {M : Nat} (h : Rows3 rs M) : ∀ r ∈ rs, r.words.length < 100000 := fun r hr => by have := (h.2 r hr).2.1; omega
end Go.Proofs.YtacceiloggnekaaDoor
