/-
  The rows of a text; rows whose words lie in memory of one's own. No condition.
-/
import Derived.Test.YtacceiloggnekaaDoorRRow
namespace Go.Proofs.YtacceiloggnekaaDoor
open Go.RowKit
/-- How many bytes stand ahead of the first line feed. -/
def lineN : List UInt8 → Nat
  | [] => 0
  | c :: r => if c.toNat = 10 then 0 else lineN r + 1
theorem lineN_le : ∀ r, lineN r ≤ r.length
  | [] => Nat.le_refl _
  | c :: r => by
    unfold lineN
    split
    · exact Nat.zero_le _
    · simpa using lineN_le r
theorem lineN_at {l : List UInt8} {k : Nat} (h : k < l.length) : lineN (l.drop k) = if (l[k]).toNat = 10 then 0 else lineN (l.drop (k + 1)) + 1 := by
  rw [List.drop_eq_getElem_cons h]; rfl
/-- A row, if it has words, before the rows read behind it. -/
def consRs (o : Nat) (ws : List Wd) : (Nat × Nat) ⊕ List Rw → (Nat × Nat) ⊕ List Rw
  | .inl p => .inl p
  | .inr rs => .inr (if ws.length = 0 then rs else ⟨(o : Int), ws⟩ :: rs)
/-- What a line gives. -/
def lineR (o : Nat) (x : Nat ⊕ List Wd) (y : (Nat × Nat) ⊕ List Rw) : (Nat × Nat) ⊕ List Rw :=
  match x with
  | .inl p => .inl (3, p)
  | .inr ws => consRs o ws y
/-- The rows of a text that begins at o, or the first fault. -/
def rowsS : Nat → Nat → List UInt8 → (Nat × Nat) ⊕ List Rw
  | 0, _, _ => .inr []
  | _ + 1, _, [] => .inr []
  | f + 1, o, c :: r =>
    if 1000 < lineN (c :: r) then .inl (4, o) else
    lineR o (rowL o ((c :: r).take (lineN (c :: r)))) (rowsS f (o + lineN (c :: r) + 1) ((c :: r).drop (lineN (c :: r) + 1)))
theorem rowsS_fuel : ∀ (f g o : Nat) (r : List UInt8), r.length ≤ f → r.length ≤ g → rowsS f o r = rowsS g o r
  | 0, 0, _, _, _, _ => rfl
  | 0, g + 1, _, r, h, _ => by
    obtain rfl : r = [] := List.eq_nil_of_length_eq_zero (by omega)
    rfl
  | f + 1, 0, _, r, _, h => by
    obtain rfl : r = [] := List.eq_nil_of_length_eq_zero (by omega)
    rfl
  | f + 1, g + 1, o, [], _, _ => rfl
  | f + 1, g + 1, o, c :: r, h1, h2 => by
    unfold rowsS
    rw [rowsS_fuel f g _ ((c :: r).drop (lineN (c :: r) + 1)) (by rw [List.length_drop]; simp at h1 ⊢; omega) (by rw [List.length_drop]; simp at h2 ⊢; omega)]
def rowsG (o : Nat) (l : List UInt8) : (Nat × Nat) ⊕ List Rw := rowsS l.length o l
theorem rowsG_nil (o : Nat) : rowsG o [] = .inr [] := rfl
theorem rowsG_step (o : Nat) (r : List UInt8) (h : r ≠ []) : rowsG o r = if 1000 < lineN r then .inl (4, o) else
    lineR o (rowL o (r.take (lineN r))) (rowsG (o + lineN r + 1) (r.drop (lineN r + 1))) := by
  cases r with
  | nil => exact absurd rfl h
  | cons c r =>
    unfold rowsG
    rw [List.length_cons, rowsS]
    split
    · rfl
    · rw [rowsS_fuel r.length ((c :: r).drop (lineN (c :: r) + 1)).length _ _ (by rw [List.length_drop]; simp) (Nat.le_refl _)]
/-- What Rows answers: the rows, or an error and its place. -/
def rowsL (l : List UInt8) : (Nat × Nat) ⊕ List Rw := if 20000 < l.length then .inl (4, 20000) else rowsG 0 l
def accRs (P : List Rw) : (Nat × Nat) ⊕ List Rw → (Nat × Nat) ⊕ List Rw
  | .inl p => .inl p
  | .inr rs => .inr (P ++ rs)
theorem accRs_nil (x : (Nat × Nat) ⊕ List Rw) : accRs [] x = x := by cases x <;> rfl
theorem accRs_cons (P : List Rw) (o : Nat) (ws : List Wd) (y : (Nat × Nat) ⊕ List Rw) : accRs P (consRs o ws y) = accRs (if ws.length = 0 then P else P ++ [⟨(o : Int), ws⟩]) y := by
  cases y with
  | inl p => rfl
  | inr rs =>
    show Sum.inr (P ++ if ws.length = 0 then rs else _) = Sum.inr ((if ws.length = 0 then P else _) ++ rs)
    split
    · rfl
    · rw [List.append_assoc]; rfl
theorem takes (l : List UInt8) (k n : Nat) : (ByteArray.mk l.toArray).extract k (k + n) = ⟨((l.drop k).take n).toArray⟩ := ba_cutn l k n
/-- The cells of rows whose words are one's own. -/
def RowCsO (w : World) (base : Nat) : List Value → List Rw → Prop
  | [], [] => True
  | a :: v :: cs, r :: rs => a = .int .i64 r.pos ∧ w.ownsRow base 47 3 v r.words.length (wdsC r.words) ∧ RowCsO w base cs rs
  | _, _ => False
theorem RowCsO.kept {w w' : World} {base : Nat} (H : ∀ v n xs, w.ownsRow base 47 3 v n xs → w'.ownsRow base 47 3 v n xs) : ∀ {cs : List Value} {rs : List Rw}, RowCsO w base cs rs → RowCsO w' base cs rs
  | [], [], _ => trivial
  | _ :: _ :: _, _ :: _, h => ⟨h.1, H _ _ _ h.2.1, RowCsO.kept H h.2.2⟩
  | [], _ :: _, h => h.elim
  | [_], _ :: _, h => h.elim
  | [_], [], h => h.elim
  | _ :: _ :: _, [], h => h.elim
theorem RowCsO.length {w : World} {base : Nat} : ∀ {cs : List Value} {rs : List Rw}, RowCsO w base cs rs → cs.length = rs.length * 2
  | [], [], _ => rfl
  | _ :: _ :: cs, _ :: rs, h => by
    have := RowCsO.length h.2.2
    simp only [List.length_cons]
    omega
  | [], _ :: _, h => h.elim
  | [_], _ :: _, h => h.elim
  | [_], [], h => h.elim
  | _ :: _ :: _, [], h => h.elim
theorem RowCsO.snoc {w : World} {base : Nat} {v : Value} {r : Rw} (h1 : w.ownsRow base 47 3 v r.words.length (wdsC r.words)) : ∀ {cs : List Value} {rs : List Rw}, RowCsO w base cs rs → RowCsO w base (cs ++ [.int .i64 r.pos, v]) (rs ++ [r])
  | [], [], _ => ⟨rfl, h1, trivial⟩
  | _ :: _ :: _, _ :: _, h => ⟨h.1, h.2.1, RowCsO.snoc h1 h.2.2⟩
  | [], _ :: _, h => h.elim
  | [_], _ :: _, h => h.elim
  | [_], [], h => h.elim
  | _ :: _ :: _, [], h => h.elim
theorem RowCsO.plain {w : World} {base : Nat} : ∀ {cs : List Value} {rs : List Rw}, RowCsO w base cs rs → RowCs w cs rs
  | [], [], _ => trivial
  | _ :: _ :: _, _ :: _, h => ⟨h.1, words_of_own h.2.1, RowCsO.plain h.2.2⟩
  | [], _ :: _, h => h.elim
  | [_], _ :: _, h => h.elim
  | [_], [], h => h.elim
  | _ :: _ :: _, [], h => h.elim
theorem rows_of_own {w : World} {base : Nat} {e : TypeId} {v : Value} {cs : List Value} {rs : List Rw} (h : w.ownsRow base e 2 v rs.length cs) (hc : RowCs w cs rs) : RowsAt w v rs := by
  obtain ⟨p, cap, h1, h2⟩ := cells_of_own h hc.length
  exact ⟨p, cap, cs, h1, hc, h2⟩
/-- Rows of different types are different blocks. -/
theorem own_apart {w : World} {b1 b2 : Nat} {e1 e2 : TypeId} {s1 s2 n1 n2 : Nat} {v1 v2 : Value} {x1 x2 : List Value} (h1 : w.ownsRow b1 e1 s1 v1 n1 x1) (h2 : w.ownsRow b2 e2 s2 v2 n2 x2) (hne : e1 ≠ e2) : v1.ownBlock = none ∨ v1.ownBlock ≠ v2.ownBlock := by
  rcases h1.2 with ⟨rfl, _⟩ | ⟨g, cap, cur, rfl, _, hg, _⟩
  · exact .inl rfl
  · rcases h2.2 with ⟨rfl, _⟩ | ⟨g2, cap2, cur2, rfl, _, hg2, _⟩
    · exact .inr (by simp [Value.ownBlock])
    · refine .inr fun e => ?_
      obtain rfl : g = g2 := by simpa [Value.ownBlock] using e
      have := hg.symm.trans hg2
      simp at this
      exact hne this.2
end Go.Proofs.YtacceiloggnekaaDoor
