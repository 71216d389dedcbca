/-
  Queries, purely: what is encoded, what is a query, its pairs, what is made of pairs. No condition.
-/
import Derived.Test.YtbbphchhdppipaaDoorUEnc0
import Derived.Test.YtbbphchhdppipaaDoorPFacts
namespace Go.Proofs.YtbbphchhdppipaaDoor
/-- The bytes that stay. -/
def stayS : WSet := ⟨576450934008184832#64, 5188146764422578175#64, 0#64, 0#64⟩
/-- The bytes of literals, but for escapes. -/
def litS : WSet := ⟨3458763903935184896#64, 5188146764422578175#64, 0#64, 0#64⟩
/-- The bytes of queries. -/
def qryS : WSet := ⟨18446744030759878656#64, 9223372036854775807#64, 0#64, 0#64⟩
def codeL (l : List UInt8) : List UInt8 := encL stayS l
/-- Has each percent sign two hexadecimal digits behind it? -/
def okE : List UInt8 → Bool
  | [] => true
  | [c] => !(c == 37)
  | [c, a] => !(c == 37) && !(a == 37)
  | c :: a :: b :: t => if c = 37 then isHex a && isHex b && okE t else okE (a :: b :: t)
/-- What a text says. -/
def unL : List UInt8 → List UInt8
  | [] => []
  | [c] => [c]
  | [c, a] => [c, a]
  | c :: a :: b :: t => if c = 37 then UInt8.ofNat (16 * hexB a + hexB b) :: unL t else c :: unL (a :: b :: t)
theorem okE_plain {c : UInt8} (hc : c ≠ 37) (r : List UInt8) : okE (c :: r) = okE r := by
  have h : (c == 37) = false := by simpa using hc
  match r with
  | [] => simp [okE, h]
  | [a] => simp [okE, h]
  | a :: b :: t => rw [okE, if_neg hc]
theorem unL_plain {c : UInt8} (hc : c ≠ 37) (r : List UInt8) : unL (c :: r) = c :: unL r := by
  match r with
  | [] => simp [unL]
  | [a] => simp [unL]
  | a :: b :: t => rw [unL, if_neg hc]
theorem dec_is : ∀ (n : Nat) (l : List UInt8) (i : Nat), l.length ≤ n → (okE l = true → decL l i = .ok (unL l)) ∧ (okE l = false → ∃ j, decL l i = .error j)
  | 0, l, i, h => by
    obtain rfl : l = [] := List.eq_nil_of_length_eq_zero (by omega)
    exact ⟨fun _ => rfl, fun h => by simp [okE] at h⟩
  | n + 1, [], i, h => ⟨fun _ => rfl, fun h => by simp [okE] at h⟩
  | n + 1, c :: r, i, h => by
    simp only [List.length_cons] at h
    by_cases hc : c = 37
    · subst hc
      match r with
      | [] => exact ⟨fun h => by simp [okE] at h, fun _ => ⟨i, decL_bad i rfl⟩⟩
      | [a] => exact ⟨fun h => by simp [okE] at h, fun _ => ⟨i, decL_bad i rfl⟩⟩
      | a :: b :: t =>
        simp only [List.length_cons] at h
        have hesc : escB (37 :: a :: b :: t) = (isHex a && isHex b) := by simp [escB]
        obtain ⟨ih1, ih2⟩ := dec_is n t (i + 3) (by omega)
        rw [okE, if_pos rfl]
        rw [unL, if_pos rfl]
        cases hh : (isHex a && isHex b)
        · rw [hh] at hesc
          exact ⟨fun h => by simp at h, fun _ => ⟨i, decL_bad i hesc⟩⟩
        · rw [hh] at hesc
          have e := decL_esc i hesc
          rw [show (37 :: a :: b :: t).drop 3 = t from rfl] at e
          rw [e, Bool.true_and]
          refine ⟨fun h => ?_, fun h => ?_⟩
          · rw [ih1 h]; rfl
          · obtain ⟨j, hj⟩ := ih2 h
            exact ⟨j, by rw [hj]; rfl⟩
    · rw [okE_plain hc, unL_plain hc, decL_plain i hc]
      obtain ⟨ih1, ih2⟩ := dec_is n r (i + 1) (by omega)
      refine ⟨fun h => ?_, fun h => ?_⟩
      · rw [ih1 h]; rfl
      · obtain ⟨j, hj⟩ := ih2 h
        exact ⟨j, by rw [hj]; rfl⟩
theorem dec_ok {l : List UInt8} (h : okE l = true) (i : Nat) : decL l i = .ok (unL l) := (dec_is l.length l i (Nat.le_refl _)).1 h
theorem dec_no {l : List UInt8} (h : okE l = false) (i : Nat) : ∃ j, decL l i = .error j := (dec_is l.length l i (Nat.le_refl _)).2 h
theorem okE_sep {c : UInt8} (hc : c ≠ 37) (hx : isHex c = false) (y : List UInt8) : ∀ (n : Nat) (x : List UInt8), x.length ≤ n → okE (x ++ c :: y) = (okE x && okE y)
  | 0, x, h => by
    obtain rfl : x = [] := List.eq_nil_of_length_eq_zero (by omega)
    rw [List.nil_append, okE_plain hc]
    simp [okE]
  | n + 1, [], h => by
    rw [List.nil_append, okE_plain hc]
    simp [okE]
  | n + 1, d :: r, h => by
    simp only [List.length_cons] at h
    by_cases hd : d = 37
    · subst hd
      match r with
      | [] =>
        cases y with
        | nil => simp [okE]
        | cons b t => simp [okE, hx]
      | [a] => simp [okE, hx]
      | a :: b :: t =>
        simp only [List.length_cons] at h
        have ih := okE_sep hc hx y n t (by omega)
        show okE (37 :: a :: b :: (t ++ c :: y)) = _
        rw [okE, if_pos rfl, ih, okE, if_pos rfl, Bool.and_assoc (isHex a && isHex b)]
    · show okE (d :: (r ++ c :: y)) = _
      rw [okE_plain hd, okE_plain hd]
      exact okE_sep hc hx y n r (by omega)
theorem okE_cut {c : UInt8} (hc : c ≠ 37) (hx : isHex c = false) (x y : List UInt8) : okE (x ++ c :: y) = (okE x && okE y) := okE_sep hc hx y _ x (Nat.le_refl _)
/-- The strings between ampersands, with what of the first one is read already. -/
def cutS : List UInt8 → List UInt8 → List (List UInt8)
  | cur, [] => [cur]
  | cur, c :: r => if c.toNat = 38 then cur :: cutS [] r else cutS (cur ++ [c]) r
/-- What stands before the first byte c, behind it, and whether there is one. -/
def cutB (c : UInt8) : List UInt8 → List UInt8 × List UInt8 × Bool
  | [] => ([], [], false)
  | x :: r => if x = c then ([], r, true) else (x :: (cutB c r).1, (cutB c r).2.1, (cutB c r).2.2)
/-- A pair. -/
structure Pr where
  nm : List UInt8
  vl : List UInt8
  br : Bool
deriving DecidableEq
instance : Inhabited Pr := ⟨⟨[], [], false⟩⟩
def prC (p : Pr) : List Value := [.string ⟨p.nm.toArray⟩, .string ⟨p.vl.toArray⟩, .bool p.br]
def prsC (L : List Pr) : List Value := L.flatMap prC
def prV (p : Pr) : Value := .agg #[.string ⟨p.nm.toArray⟩, .string ⟨p.vl.toArray⟩, .bool p.br]
/-- The pair of a piece. -/
def prOf (x : List UInt8) : Pr := ⟨(cutB 61 x).1, (cutB 61 x).2.1, !(cutB 61 x).2.2⟩
/-- The pieces that are not empty. -/
def neL (L : List (List UInt8)) : List (List UInt8) := L.filter fun x => !(x == [])
def pairsL (q : List UInt8) : List Pr := (neL (cutS [] q)).map prOf
def chkN (q : List UInt8) : Nat := if 128 < q.length then 4 else if (q.all fun b => qryS.has b.toNat) then 0 else 3
def litN (s : List UInt8) : Nat := if okE s && s.all (fun b => litS.has b.toNat) then 0 else 3
def prsR (q : List UInt8) : Nat ⊕ List Pr := if chkN q = 0 then .inr (pairsL q) else .inl (chkN q)
def unP (p : Pr) : Pr := ⟨unL p.nm, unL p.vl, p.br⟩
def okP (p : Pr) : Bool := okE p.nm && okE p.vl
def decR (q : List UInt8) : Nat ⊕ List Pr := if chkN q = 0 then (if okE q then .inr ((pairsL q).map unP) else .inl 3) else .inl (chkN q)
/-- The value of the first pair with this name. -/
def getF (n : List UInt8) : List Pr → Nat ⊕ List UInt8
  | [] => .inl 6
  | p :: r => if p.nm = n then .inr p.vl else getF n r
def getR (q n : List UInt8) : Nat ⊕ List UInt8 := match decR q with
  | .inl e => .inl e
  | .inr L => getF n L
def badP (p : Pr) : Bool := p.br && (p.nm == [] || !(p.vl == []))
def pieceL (p : Pr) : List UInt8 := if p.br then codeL p.nm else codeL p.nm ++ 61 :: codeL p.vl
def joinF : List UInt8 → Bool → List Pr → List UInt8
  | O, _, [] => O
  | O, f, p :: r => joinF ((if f then O else O ++ [38]) ++ pieceL p) false r
def joinL (L : List Pr) : List UInt8 := joinF [] true L
def joinR (L : List Pr) : Nat ⊕ List UInt8 := if L.any badP then .inl 3 else if 128 < (joinL L).length then .inl 4 else .inr (joinL L)
def appR (q m : List UInt8) : Nat ⊕ List UInt8 :=
  if chkN q = 0 then (if chkN m = 0 then (if q = [] ∨ m = [] then .inr (m ++ q) else if 128 < m.length + 1 + q.length then .inl 4 else .inr (m ++ 38 :: q)) else .inl (chkN m)) else .inl (chkN q)
def canR (q : List UInt8) : Nat ⊕ List UInt8 := match decR q with
  | .inl e => .inl e
  | .inr L => joinR L
/-- A text and no error, or no text and an error. -/
def strR : Nat ⊕ List UInt8 → Value
  | .inl e => .tuple #[.string ⟨#[]⟩, .int .i64 (e : Int)]
  | .inr t => .tuple #[.string ⟨t.toArray⟩, .int .i64 0]
theorem okE_cutS : ∀ (l cur : List UInt8), (cutS cur l).all okE = okE (cur ++ l)
  | [], cur => by simp [cutS]
  | c :: r, cur => by
    unfold cutS
    split
    · rename_i h
      have h2 : c = 38 := UInt8.toNat_inj.1 h
      subst h2
      rw [okE_cut (by decide) (by decide), List.all_cons, okE_cutS r []]
      rfl
    · rw [okE_cutS r (cur ++ [c])]
      simp
theorem all_ne (L : List (List UInt8)) : (neL L).all okE = L.all okE := by
  induction L with
  | nil => rfl
  | cons x r ih =>
    unfold neL at ih ⊢
    cases x with
    | nil => simpa [okE] using ih
    | cons c t => rw [List.filter_cons, if_pos (by simp), List.all_cons, List.all_cons, ih]
theorem cutB_app (c : UInt8) : ∀ x : List UInt8, ((cutB c x).2.2 = true ∧ x = (cutB c x).1 ++ c :: (cutB c x).2.1) ∨ ((cutB c x).2.2 = false ∧ (cutB c x).1 = x ∧ (cutB c x).2.1 = [])
  | [] => .inr ⟨rfl, rfl, rfl⟩
  | y :: r => by
    by_cases h : y = c
    · left
      simp [cutB, h]
    · rcases cutB_app c r with ⟨h1, h2⟩ | ⟨h1, h2, h3⟩
      · left
        rw [cutB, if_neg h]
        exact ⟨h1, by rw [List.cons_append, ← h2]⟩
      · right
        rw [cutB, if_neg h]
        exact ⟨h1, by rw [h2], h3⟩
theorem okE_prOf (x : List UInt8) : okP (prOf x) = okE x := by
  unfold okP prOf
  rcases cutB_app 61 x with ⟨h1, h2⟩ | ⟨h1, h2, h3⟩
  · conv => rhs; rw [h2]
    rw [okE_cut (by decide) (by decide)]
  · dsimp only
    rw [h2, h3]
    simp [okE]
/-- A query is correct just if all its pairs are. -/
theorem ok_pairs (q : List UInt8) : (pairsL q).all okP = okE q := by
  unfold pairsL
  rw [List.all_map]
  have e : (okP ∘ prOf) = okE := funext fun x => okE_prOf x
  rw [e, all_ne, okE_cutS]
  rfl
theorem prsC_length (L : List Pr) : (prsC L).length = L.length * 3 := by
  induction L with
  | nil => rfl
  | cons p r ih =>
    unfold prsC at ih ⊢
    rw [List.flatMap_cons, List.length_append, ih]
    simp [prC]
    omega
theorem joinF_len : ∀ (L : List Pr) (O : List UInt8) (f : Bool), O.length ≤ (joinF O f L).length
  | [], O, f => Nat.le_refl _
  | p :: r, O, f => by
    rw [joinF]
    refine Nat.le_trans ?_ (joinF_len r _ false)
    cases f <;> simp <;> omega
theorem joinF_at {O : List UInt8} {f : Bool} {L : List Pr} {k : Nat} (h : k < L.length) : joinF O f (L.drop k) = joinF ((if f then O else O ++ [38]) ++ pieceL L[k]) false (L.drop (k + 1)) := by
  rw [List.drop_eq_getElem_cons h]; rfl
theorem cutS_len : ∀ (l cur : List UInt8), (cutS cur l).length ≤ l.length + 1
  | [], cur => by simp [cutS]
  | c :: r, cur => by
    unfold cutS
    split
    · have := cutS_len r []
      simp only [List.length_cons]
      omega
    · have := cutS_len r (cur ++ [c])
      simp only [List.length_cons]
      omega
theorem cutS_mem : ∀ (l cur x : List UInt8), x ∈ cutS cur l → x.length ≤ cur.length + l.length
  | [], cur, x, h => by
    simp only [cutS, List.mem_singleton] at h
    subst h
    simp
  | c :: r, cur, x, h => by
    unfold cutS at h
    split at h
    · rcases List.mem_cons.1 h with h | h
      · subst h
        simp
      · have := cutS_mem r [] x h
        simp only [List.length_nil, List.length_cons] at this ⊢
        omega
    · have := cutS_mem r (cur ++ [c]) x h
      simp only [List.length_append, List.length_cons, List.length_nil] at this ⊢
      omega
theorem neL_len (L : List (List UInt8)) : (neL L).length ≤ L.length := List.length_filter_le _ _
theorem pairs_len (q : List UInt8) : (pairsL q).length ≤ q.length + 1 := by
  unfold pairsL
  rw [List.length_map]
  exact Nat.le_trans (neL_len _) (cutS_len q [])
theorem cutB_len (c : UInt8) (x : List UInt8) : (cutB c x).1.length ≤ x.length ∧ (cutB c x).2.1.length ≤ x.length := by
  rcases cutB_app c x with ⟨h1, h2⟩ | ⟨h1, h2, h3⟩
  · have := congrArg List.length h2
    simp only [List.length_append, List.length_cons] at this
    omega
  · rw [h2, h3]
    simp
theorem pairs_mem {q : List UInt8} {p : Pr} (h : p ∈ pairsL q) : p.nm.length ≤ q.length ∧ p.vl.length ≤ q.length := by
  unfold pairsL at h
  obtain ⟨x, hx, rfl⟩ := List.mem_map.1 h
  have h1 := cutS_mem q [] x (List.mem_filter.1 hx).1
  have h2 := cutB_len 61 x
  rw [List.length_nil] at h1
  unfold prOf
  dsimp only
  omega
theorem unL_len : ∀ (n : Nat) (l : List UInt8), l.length ≤ n → (unL l).length ≤ l.length
  | 0, l, h => by
    obtain rfl : l = [] := List.eq_nil_of_length_eq_zero (by omega)
    simp [unL]
  | n + 1, [], h => by simp [unL]
  | n + 1, [c], h => by simp [unL]
  | n + 1, [c, a], h => by simp [unL]
  | n + 1, c :: a :: b :: t, h => by
    simp only [List.length_cons] at h
    rw [unL]
    split
    · have := unL_len n t (by omega)
      simp only [List.length_cons]
      omega
    · have := unL_len n (a :: b :: t) (by simp only [List.length_cons]; omega)
      simp only [List.length_cons] at this ⊢
      omega
theorem chk_len {q : List UInt8} (h : chkN q = 0) : q.length ≤ 128 := by
  unfold chkN at h
  split at h
  · simp at h
  · omega
theorem chk_cases (q : List UInt8) : chkN q = 0 ∨ chkN q = 3 ∨ chkN q = 4 := by
  unfold chkN
  split
  · simp
  · split <;> simp
/-- The pairs of a correct query are short. -/
theorem dec_small {q : List UInt8} {L : List Pr} (h : decR q = .inr L) : L.length ≤ 129 ∧ ∀ p ∈ L, p.nm.length ≤ 128 ∧ p.vl.length ≤ 128 := by
  unfold decR at h
  split at h
  · rename_i hc
    have hq := chk_len hc
    split at h
    · injection h with h
      subst h
      refine ⟨by rw [List.length_map]; have := pairs_len q; omega, fun p hp => ?_⟩
      obtain ⟨x, hx, rfl⟩ := List.mem_map.1 hp
      have h1 := pairs_mem hx
      have h2 := unL_len _ x.nm (Nat.le_refl _)
      have h3 := unL_len _ x.vl (Nat.le_refl _)
      unfold unP
      dsimp only
      omega
    · cases h
  · cases h
end Go.Proofs.YtbbphchhdppipaaDoor
