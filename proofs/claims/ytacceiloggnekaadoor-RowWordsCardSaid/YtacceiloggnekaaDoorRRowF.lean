/-
  Rows of texts: the words of a line, the rows of a text; how they lie in memory. No condition.
-/
import Derived.Test.YtacceiloggnekaaDoorRWord
import Derived.Test.YtacceiloggnekaaDoorICells
import Derived.Laws.OwnMore
import Derived.Deep.AppendLies
namespace Go.Proofs.YtacceiloggnekaaDoor
open Go.RowKit
/-- A word: where it begins, its text, whether it was quoted. -/
structure Wd where
  pos : Int
  text : List UInt8
  quo : Bool
/-- A row: where its line begins, and its words. -/
structure Rw where
  pos : Int
  words : List Wd
/-- The word at the beginning: its text, whether it was quoted, and how many bytes it has; 0 if it is none. -/
def wordS (r : List UInt8) : List UInt8 × Bool × Nat := wordT r 0
theorem wordT_drop {l : List UInt8} {k : Nat} (h : k < l.length) : wordT l k = wordS (l.drop k) := by
  have e0 : (l.drop k)[0]? = l[k]? := by rw [List.getElem?_drop, Nat.add_zero]
  have eq : quoP (l.drop k) 0 = quoP l k := by
    unfold quoP
    rw [List.drop_drop]
  have ej : ∀ j, (l.drop k)[0 + j]? = l[k + j]? := fun j => by rw [List.getElem?_drop, Nat.zero_add]
  have ew : ∀ x, wordR (l.drop k) 0 x = wordR l k x := fun x => by
    cases x with
    | none => rfl
    | some n => unfold wordR; rw [List.drop_zero]
  unfold wordS wordT
  rw [e0, eq, ej, ew, List.drop_zero, List.length_drop]
  have : (0 + (quoP l k).2 < l.length - k) ↔ (k + (quoP l k).2 < l.length) := by omega
  simp only [this]
theorem wordT_len {l : List UInt8} {k : Nat} (h : k < l.length) : k + (wordT l k).2.2 ≤ l.length := by
  unfold wordT
  split
  · split
    · show k + 0 ≤ _; omega
    · exact quoP_len h
  · cases hb : bareF (l.drop k) with
    | none => show k + 0 ≤ _; omega
    | some n =>
      have := bareF_le _ _ hb
      rw [List.length_drop] at this
      show k + n ≤ _; omega
/-- A word before the words read behind it, or the place of a fault. -/
def consR (x : Wd) : Nat ⊕ List Wd → Nat ⊕ List Wd
  | .inl p => .inl p
  | .inr ws => .inr (x :: ws)
/-- The words of a line that begins at o, or the place of the first fault. -/
def rowS : Nat → Nat → List UInt8 → Nat ⊕ List Wd
  | 0, _, _ => .inr []
  | _ + 1, _, [] => .inr []
  | f + 1, o, c :: r =>
    if isBl c then rowS f (o + 1) r else if c.toNat = 35 then .inr [] else
    if (wordS (c :: r)).2.2 = 0 then .inl o else
    consR ⟨(o : Int), (wordS (c :: r)).1, (wordS (c :: r)).2.1⟩ (rowS f (o + (wordS (c :: r)).2.2) ((c :: r).drop (wordS (c :: r)).2.2))
theorem rowS_fuel : ∀ (f g o : Nat) (r : List UInt8), r.length ≤ f → r.length ≤ g → rowS f o r = rowS g o r
  | 0, 0, _, _, _, _ => rfl
  | 0, g + 1, _, r, h, _ => by
    obtain rfl : r = [] := List.eq_nil_of_length_eq_zero (by omega)
    rfl
  | f + 1, 0, _, r, _, h => by
    obtain rfl : r = [] := List.eq_nil_of_length_eq_zero (by omega)
    rfl
  | f + 1, g + 1, o, [], _, _ => rfl
  | f + 1, g + 1, o, c :: r, h1, h2 => by
    unfold rowS
    split
    · exact rowS_fuel f g _ r (by simpa using h1) (by simpa using h2)
    · split
      · rfl
      · split
        · rfl
        · rename_i h3
          rw [rowS_fuel f g _ ((c :: r).drop (wordS (c :: r)).2.2) (by rw [List.length_drop]; simp at h1 ⊢; omega) (by rw [List.length_drop]; simp at h2 ⊢; omega)]
def rowL (o : Nat) (l : List UInt8) : Nat ⊕ List Wd := rowS l.length o l
theorem rowL_nil (o : Nat) : rowL o [] = .inr [] := rfl
theorem rowL_cons (o : Nat) (c : UInt8) (r : List UInt8) : rowL o (c :: r) = if isBl c then rowL (o + 1) r else if c.toNat = 35 then .inr [] else
    if (wordS (c :: r)).2.2 = 0 then .inl o else
    consR ⟨(o : Int), (wordS (c :: r)).1, (wordS (c :: r)).2.1⟩ (rowL (o + (wordS (c :: r)).2.2) ((c :: r).drop (wordS (c :: r)).2.2)) := by
  unfold rowL
  rw [List.length_cons, rowS]
  split
  · rfl
  · split
    · rfl
    · split
      · rfl
      · rw [rowS_fuel r.length ((c :: r).drop (wordS (c :: r)).2.2).length _ _ (by rw [List.length_drop]; simp; omega) (Nat.le_refl _)]
/-- What is read from a place on, behind the words P. -/
def accR (P : List Wd) : Nat ⊕ List Wd → Nat ⊕ List Wd
  | .inl p => .inl p
  | .inr ws => .inr (P ++ ws)
theorem accR_nil (x : Nat ⊕ List Wd) : accR [] x = x := by cases x <;> rfl
theorem accR_cons (P : List Wd) (x : Wd) (y : Nat ⊕ List Wd) : accR P (consR x y) = accR (P ++ [x]) y := by
  cases y with
  | inl p => rfl
  | inr ws => show Sum.inr (P ++ x :: ws) = Sum.inr (P ++ [x] ++ ws); rw [List.append_assoc]; rfl
/-- The cells of words. -/
def wdC (x : Wd) : List Value := [.int .i64 x.pos, .string ⟨x.text.toArray⟩, .bool x.quo]
def wdsC (ws : List Wd) : List Value := ws.flatMap wdC
theorem wdsC_append (a b : List Wd) : wdsC (a ++ b) = wdsC a ++ wdsC b := by unfold wdsC; rw [List.flatMap_append]
theorem wdsC_one (x : Wd) : wdsC [x] = wdC x := by simp [wdsC]
theorem wdsC_cons (x : Wd) (ws : List Wd) : wdsC (x :: ws) = wdC x ++ wdsC ws := by simp [wdsC]
theorem wdsC_length : ∀ ws : List Wd, (wdsC ws).length = ws.length * 3
  | [] => rfl
  | x :: ws => by
    rw [wdsC_cons, List.length_append, wdsC_length ws]
    simp [wdC]
    omega
theorem wdsC_at : ∀ (ws : List Wd) (k : Nat) (h : k < ws.length) (j : Nat), j < 3 → (wdsC ws)[k * 3 + j]? = (wdC ws[k])[j]?
  | x :: ws, 0, _, j, hj => by
    rw [wdsC_cons, Nat.zero_mul, Nat.zero_add, List.getElem?_append_left (by simp [wdC]; omega)]
    rfl
  | x :: ws, k + 1, h, j, hj => by
    rw [wdsC_cons, List.getElem?_append_right (by simp [wdC]; omega), show (k + 1) * 3 + j - (wdC x).length = k * 3 + j by simp [wdC]; omega]
    exact wdsC_at ws k (by simpa using h) j hj
  | [], k, h, _, _ => absurd h (by simp)
/-- The slice holds the words. -/
def WordsAt (w : World) (v : Value) (ws : List Wd) : Prop := ∃ p cap, v = .slice p ws.length cap ∧ CellsIn w p (ws.length * 3) (fun j => (wdsC ws).getD j (.int .i64 0))
theorem WordsAt.below {k : Nat} {w w' : World} {v : Value} {ws : List Wd} (h : WordsAt w v ws) (hb : Below k w w') (hk : w.heap.size ≤ k) : WordsAt w' v ws := by
  obtain ⟨p, cap, h1, h2⟩ := h
  exact ⟨p, cap, h1, h2.below hb hk⟩
theorem WordsAt.nil (w : World) : WordsAt w (.slice none 0 0) [] := ⟨none, 0, rfl, fun j hj => absurd hj (by simp)⟩
/-- The cells of rows. -/
def RowCs (w : World) : List Value → List Rw → Prop
  | [], [] => True
  | a :: v :: cs, r :: rs => a = .int .i64 r.pos ∧ WordsAt w v r.words ∧ RowCs w cs rs
  | _, _ => False
theorem RowCs.below {k : Nat} {w w' : World} (hb : Below k w w') (hk : w.heap.size ≤ k) : ∀ {cs : List Value} {rs : List Rw}, RowCs w cs rs → RowCs w' cs rs
  | [], [], _ => trivial
  | _ :: _ :: _, _ :: _, h => ⟨h.1, h.2.1.below hb hk, RowCs.below hb hk h.2.2⟩
  | [], _ :: _, h => h.elim
  | [_], _ :: _, h => h.elim
  | [_], [], h => h.elim
  | _ :: _ :: _, [], h => h.elim
theorem RowCs.length {w : World} : ∀ {cs : List Value} {rs : List Rw}, RowCs w cs rs → cs.length = rs.length * 2
  | [], [], _ => rfl
  | _ :: _ :: cs, _ :: rs, h => by
    have := RowCs.length h.2.2
    simp only [List.length_cons]
    omega
  | [], _ :: _, h => h.elim
  | [_], _ :: _, h => h.elim
  | [_], [], h => h.elim
  | _ :: _ :: _, [], h => h.elim
theorem RowCs.snoc {w : World} {v : Value} {r : Rw} (h1 : WordsAt w v r.words) : ∀ {cs : List Value} {rs : List Rw}, RowCs w cs rs → RowCs w (cs ++ [.int .i64 r.pos, v]) (rs ++ [r])
  | [], [], _ => ⟨rfl, h1, trivial⟩
  | _ :: _ :: _, _ :: _, h => ⟨h.1, h.2.1, RowCs.snoc h1 h.2.2⟩
  | [], _ :: _, h => h.elim
  | [_], _ :: _, h => h.elim
  | [_], [], h => h.elim
  | _ :: _ :: _, [], h => h.elim
theorem RowCs.at {w : World} : ∀ {cs : List Value} {rs : List Rw}, RowCs w cs rs → ∀ (k : Nat) (h : k < rs.length), cs[k * 2]? = some (.int .i64 rs[k].pos) ∧ ∃ v, cs[k * 2 + 1]? = some v ∧ WordsAt w v rs[k].words
  | [], [], _, k, h => absurd h (by simp)
  | a :: v :: cs, r :: rs, h, 0, _ => ⟨by rw [h.1]; rfl, v, rfl, h.2.1⟩
  | a :: v :: cs, r :: rs, h, k + 1, hk => by
    have := RowCs.at h.2.2 k (by simpa using hk)
    rw [show (k + 1) * 2 = k * 2 + 1 + 1 by omega, show k * 2 + 1 + 1 + 1 = (k * 2 + 1) + 1 + 1 by omega]
    exact this
  | [], _ :: _, h, _, _ => h.elim
  | [_], _ :: _, h, _, _ => h.elim
  | [_], [], h, _, _ => h.elim
  | _ :: _ :: _, [], h, _, _ => h.elim
/-- The slice holds the rows. -/
def RowsAt (w : World) (v : Value) (rs : List Rw) : Prop := ∃ p cap cs, v = .slice p rs.length cap ∧ RowCs w cs rs ∧ CellsIn w p (rs.length * 2) (fun j => cs.getD j (.int .i64 0))
theorem RowsAt.below {k : Nat} {w w' : World} {v : Value} {rs : List Rw} (h : RowsAt w v rs) (hb : Below k w w') (hk : w.heap.size ≤ k) : RowsAt w' v rs := by
  obtain ⟨p, cap, cs, h1, h2, h3⟩ := h
  exact ⟨p, cap, cs, h1, h2.below hb hk, h3.below hb hk⟩
theorem RowsAt.nil (w : World) : RowsAt w (.slice none 0 0) [] := ⟨none, 0, [], rfl, trivial, fun j hj => absurd hj (by simp)⟩
/-- A row of one's own as cells to read. -/
theorem cells_of_own {w : World} {base : Nat} {e : TypeId} {size n : Nat} {v : Value} {xs : List Value} (h : w.ownsRow base e size v n xs) (hl : xs.length = n * size) : ∃ p cap, v = .slice p n cap ∧ CellsIn w p (n * size) (fun j => xs.getD j (.int .i64 0)) := by
  by_cases hn : 0 < n
  · obtain ⟨g, cap, rfl, _, _⟩ := h.form hn
    refine ⟨_, cap, rfl, fun j hj => ⟨g, 0, rfl, (h.lt g rfl).2, ?_⟩⟩
    rw [Nat.zero_add, h.cellAt j hj]
    dsimp only
    rw [List.getD_eq_getElem?_getD, List.getElem?_eq_getElem (by omega : j < xs.length)]
    rfl
  · obtain rfl : n = 0 := by omega
    rcases h.2 with ⟨rfl, _⟩ | ⟨g, cap, cur, rfl, _⟩
    · exact ⟨none, 0, rfl, fun j hj => absurd hj (by simp)⟩
    · exact ⟨_, cap, rfl, fun j hj => absurd hj (by simp)⟩
theorem words_of_own {w : World} {base : Nat} {e : TypeId} {v : Value} {ws : List Wd} (h : w.ownsRow base e 3 v ws.length (wdsC ws)) : WordsAt w v ws := by
  obtain ⟨p, cap, h1, h2⟩ := cells_of_own h (wdsC_length ws)
  exact ⟨p, cap, h1, h2⟩
end Go.Proofs.YtacceiloggnekaaDoor
