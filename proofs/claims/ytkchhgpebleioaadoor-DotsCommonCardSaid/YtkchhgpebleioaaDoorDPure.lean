/-
  Paths, purely: pieces, which paths are normal, what is made of them. No condition.
-/
import Derived.Test.YtkchhgpebleioaaDoorProg
import Derived.Lib.Hide
namespace Go.Proofs.YtkchhgpebleioaaDoor
/-- The strings between slashes, with what of the first one is read already. -/
def cutS : List UInt8 → List UInt8 → List (List UInt8)
  | cur, [] => [cur]
  | cur, c :: r => if c.toNat = 47 then cur :: cutS [] r else cutS (cur ++ [c]) r
/-- The strings between the slashes of a path, and the one behind its last slash. -/
def piecesL (p : List UInt8) : List (List UInt8) := cutS [] (p.drop 1)
def dotB (x : List UInt8) : Bool := x == [46] || x == [46, 46]
def pathB : List UInt8 → Bool
  | [] => false
  | c :: _ => c.toNat == 47
/-- No piece is a dot segment, none but the last one is empty. -/
def okL : List (List UInt8) → Bool
  | [] => true
  | [x] => !dotB x
  | x :: y :: r => !(dotB x || x == []) && okL (y :: r)
def normB (p : List UInt8) : Bool := pathB p && decide (p.length ≤ 128) && okL (piecesL p)
def flatL : List (List UInt8) → List UInt8
  | [] => []
  | x :: r => 47 :: (x ++ flatL r)
def putL (L : List (List UInt8)) (o : Bool) : List UInt8 := flatL L ++ (if o || L == [] then [47] else [])
/-- What cleaning makes of pieces, with kept ones, and whether the path ends open. -/
def clnF : List (List UInt8) → List (List UInt8) → Bool → Option (List UInt8)
  | [], K, o => some (putL K o)
  | x :: r, K, _ => if x = [46, 46] then (if K = [] then none else clnF r K.dropLast true) else if x = [] ∨ x = [46] then clnF r K true else clnF r (K ++ [x]) false
def endC : Option (List UInt8) → Nat ⊕ List UInt8
  | none => .inl 18
  | some t => .inr t
def cleanR (p : List UInt8) : Nat ⊕ List UInt8 := if pathB p then endC (clnF (piecesL p) [] false) else .inl 3
/-- A text and no error, or no text and an error. -/
def strR : Nat ⊕ List UInt8 → Value
  | .inl e => .tuple #[.string ⟨#[]⟩, .int .i64 (e : Int)]
  | .inr t => .tuple #[.string ⟨t.toArray⟩, .int .i64 0]
def openB (p : List UInt8) : Bool := ([47] : List UInt8).isSuffixOf p
def segsL (p : List UInt8) : List (List UInt8) := (piecesL p).filter fun x => !(x == [])
def segsR (p : List UInt8) : Nat ⊕ List (List UInt8) := if normB p then .inr (segsL p) else .inl 3
def parentR (p : List UInt8) : Nat ⊕ List UInt8 := if normB p then (if segsL p = [] then .inl 6 else .inr (putL (segsL p).dropLast false)) else .inl 3
def dirB (p : List UInt8) : Bool := normB p && (p == [47] || !openB p)
def underB (p d : List UInt8) : Bool := d == [47] || p == d || (d ++ [47]).isPrefixOf p
def underR (p d : List UInt8) : Value := if normB p && dirB d then .tuple #[.bool (underB p d), .int .i64 0] else .tuple #[.bool false, .int .i64 3]
def nameB (x : List UInt8) : Bool := !(x == []) && !x.contains 47 && !dotB x
def makeR (L : List (List UInt8)) (o : Bool) : Nat ⊕ List UInt8 := if L.all nameB then (if 128 < (putL L o).length then .inl 4 else .inr (putL L o)) else .inl 3
def joinR (d s : List UInt8) : Nat ⊕ List UInt8 := if dirB d then makeR (segsL d ++ [s]) false else .inl 3
/-- How many segments two lists have in common at their beginning. -/
def comN : List (List UInt8) → List (List UInt8) → Nat
  | x :: r, y :: q => if x == y then comN r q + 1 else 0
  | _, _ => 0
def commonR (a b : List UInt8) : Nat ⊕ List UInt8 := if normB a && normB b then .inr (putL ((segsL a).take (comN (segsL a) (segsL b))) false) else .inl 3
theorem cutS_ne (cur l : List UInt8) : cutS cur l ≠ [] := by
  cases l with
  | nil => simp [cutS]
  | cons c r =>
    unfold cutS
    split
    · simp
    · exact cutS_ne _ r
theorem cutS_len : ∀ (l cur : List UInt8), (cutS cur l).length ≤ l.length + 1
  | [], cur => by simp [cutS]
  | c :: r, cur => by
    unfold cutS
    split
    · have := cutS_len r []
      simp only [List.length_cons]
      omega
    · have := cutS_len r (cur ++ [c])
      simp only [List.length_cons]
      omega
theorem cutS_mem : ∀ (l cur x : List UInt8), x ∈ cutS cur l → x.length ≤ cur.length + l.length
  | [], cur, x, h => by
    simp only [cutS, List.mem_singleton] at h
    subst h
    simp
  | c :: r, cur, x, h => by
    unfold cutS at h
    split at h
    · rcases List.mem_cons.1 h with h | h
      · subst h
        simp
      · have := cutS_mem r [] x h
        simp only [List.length_nil, List.length_cons] at this ⊢
        omega
    · have := cutS_mem r (cur ++ [c]) x h
      simp only [List.length_append, List.length_cons, List.length_nil] at this ⊢
      omega
theorem pieces_len (p : List UInt8) : (piecesL p).length ≤ p.length + 1 := by
  have := cutS_len (p.drop 1) []
  rw [List.length_drop] at this
  unfold piecesL
  omega
theorem pieces_mem {p x : List UInt8} (h : x ∈ piecesL p) : x.length ≤ p.length := by
  have := cutS_mem (p.drop 1) [] x h
  rw [List.length_drop, List.length_nil] at this
  omega
theorem segs_len (p : List UInt8) : (segsL p).length ≤ p.length + 1 := Nat.le_trans (List.length_filter_le _ _) (pieces_len p)
theorem segs_mem {p x : List UInt8} (h : x ∈ segsL p) : x.length ≤ p.length := pieces_mem (List.mem_filter.1 h).1
theorem flat_append : ∀ (A B : List (List UInt8)), flatL (A ++ B) = flatL A ++ flatL B
  | [], B => rfl
  | x :: A, B => by simp [flatL, flat_append A B]
theorem flat_len : ∀ (L : List (List UInt8)) (n : Nat), (∀ x ∈ L, x.length ≤ n) → (flatL L).length ≤ L.length * (n + 1)
  | [], n, _ => by simp [flatL]
  | x :: r, n, h => by
    have h1 := flat_len r n (fun y hy => h y (List.mem_cons_of_mem _ hy))
    have h2 := h x (by simp)
    simp only [flatL, List.length_cons, List.length_append, Nat.succ_mul] at h1 ⊢
    rw [Nat.mul_comm] at h1 ⊢
    simp only [Nat.add_mul, Nat.one_mul] at h1 ⊢
    have := Nat.mul_comm n r.length
    omega
theorem comN_le : ∀ (A B : List (List UInt8)), comN A B ≤ A.length ∧ comN A B ≤ B.length
  | [], B => by simp [comN]
  | x :: A, [] => by simp [comN]
  | x :: A, y :: B => by
    have := comN_le A B
    unfold comN
    split
    · simp only [List.length_cons]; omega
    · simp
end Go.Proofs.YtkchhgpebleioaaDoor
