/-
  What Feed answers.
-/
import Derived.Test.YtfagjhadfonhdaaLOneF
import Derived.Test.YtfagjhadfonhdaaLRows
import Derived.Deep.Onto
namespace Go.Proofs.Ytfagjhadfonhdaa
open Go.RowKit
theorem infoLn : (Try.prog.info? 27).map (fun i => (i.zero, i.size, i.bytes)) = some (some (.agg #[.string ⟨#[]⟩, .bool false]), 2, 24) := by kernel_rfl
theorem linfo_parts {o : Option TypeInfo} {z : Value} {a b : Nat} (h : o.map (fun i => (i.zero, i.size, i.bytes)) = some (some z, a, b)) : ∃ i, o = some i ∧ i.zero = some z ∧ i.size = a ∧ i.bytes = b := by
  cases o with
  | none => cases h
  | some i =>
    simp only [Option.map_some, Option.some.injEq, Prod.mk.injEq] at h
    exact ⟨i, rfl, h.1, h.2.1, h.2.2⟩
/-- The cells of lines. -/
def lnsC : List Ln → List Value
  | [] => []
  | x :: r => .string ⟨x.tx.toArray⟩ :: .bool x.gd :: lnsC r
theorem lnsC_append : ∀ (a b : List Ln), lnsC (a ++ b) = lnsC a ++ lnsC b
  | [], _ => rfl
  | f :: r, b => by
    show _ :: _ :: lnsC (r ++ b) = _
    rw [lnsC_append r b]
    rfl
theorem lnsC_length : ∀ (a : List Ln), (lnsC a).length = a.length * 2
  | [] => rfl
  | f :: r => by
    show (lnsC r).length + 1 + 1 = (r.length + 1) * 2
    rw [lnsC_length r]
    omega
theorem lcell_news (W : World) (t : TypeId) (cs : List Value) : ∀ (j : Nat) u, cs[j]? = some u → (W.alloc (.cells cs.toArray t)).cell? ((⟨W.heap.size, 0, none⟩ : Addr).add j) = some u := fun j u h => by
  have e : (⟨W.heap.size, 0, none⟩ : Addr).add j = ⟨W.heap.size, j, none⟩ := by
    unfold Addr.add
    split
    · rename_i h; subst h; rfl
    · simp
  rw [e, World.cell?_alloc_new]
  simpa using h
/-- The lines that end in the bytes, and the splitter behind them. -/
def feedL (n : Int) : List UInt8 → List UInt8 → Sp × List Ln
  | t, [] => (⟨n, t, false⟩, [])
  | t, c :: r => if c.toNat = 10 then ((feedL n [] r).1, lineR t :: (feedL n [] r).2) else if (t.length : Int) = n then (⟨n, [], true⟩, []) else feedL n (t ++ [c]) r
theorem one_feed (n : Int) : ∀ (c t : List UInt8), ((oneL n t c).2.2.2 = true → (oneL n t c).1 = ⟨n, [], false⟩ ∧ (oneL n t c).2.2.1.length < c.length ∧ feedL n t c = ((feedL n [] (oneL n t c).2.2.1).1, (oneL n t c).2.1 :: (feedL n [] (oneL n t c).2.2.1).2)) ∧ ((oneL n t c).2.2.2 = false → feedL n t c = ((oneL n t c).1, []))
  | [], t => ⟨fun h => by simp [oneL] at h, fun _ => rfl⟩
  | c :: r, t => by
    rw [show oneL n t (c :: r) = if c.toNat = 10 then (⟨n, [], false⟩, lineR t, r, true) else if (t.length : Int) = n then (⟨n, [], true⟩, ⟨[], false⟩, [], false) else oneL n (t ++ [c]) r from rfl]
    rw [show feedL n t (c :: r) = if c.toNat = 10 then ((feedL n [] r).1, lineR t :: (feedL n [] r).2) else if (t.length : Int) = n then (⟨n, [], true⟩, []) else feedL n (t ++ [c]) r from rfl]
    by_cases h : c.toNat = 10
    · rw [if_pos h, if_pos h]
      exact ⟨fun _ => ⟨rfl, Nat.lt_succ_self _, rfl⟩, fun h => by simp at h⟩
    · rw [if_neg h, if_neg h]
      by_cases h2 : (t.length : Int) = n
      · rw [if_pos h2, if_pos h2]
        exact ⟨fun h => by simp at h, fun _ => rfl⟩
      · rw [if_neg h2, if_neg h2]
        have := one_feed n r (t ++ [c])
        exact ⟨fun h => ⟨(this.1 h).1, Nat.lt_succ_of_lt (this.1 h).2.1, (this.1 h).2.2⟩, this.2⟩
theorem feed_len (n : Int) : ∀ (c t : List UInt8), (feedL n t c).2.length ≤ c.length
  | [], t => Nat.le_refl _
  | c :: r, t => by
    unfold feedL
    split
    · simpa using feed_len n r []
    · split
      · simp
      · have := feed_len n r (t ++ [c])
        simp only [List.length_cons]
        omega
theorem errS_new {s : Sp} (h : errS s = 0) : errS ⟨s.lim, [], false⟩ = 0 := by
  have h1 : chkS s = 0 := by
    unfold errS at h
    split at h
    · assumption
    · exact h
  have h2 : ¬ (s.lim < 1 ∨ 1536 < s.lim) := by
    intro hx
    unfold chkS at h1
    rw [if_pos hx] at h1
    cases h1
  have h3 : chkS ⟨s.lim, [], false⟩ = 0 := by
    unfold chkS
    dsimp only
    rw [if_neg h2, if_neg (by simp; omega)]
    rfl
  unfold errS
  rw [if_pos h3]
  rfl
/-- What Feed answers. -/
def feedR (s : Sp) (c : List UInt8) : (Sp × List Ln) × Nat := if errS s = 0 then (feedL s.lim s.txt c, 0) else ((zeroS, []), errS s)
def goF (O : List Ln) (s : Sp) (c : List UInt8) : (Sp × List Ln) × Nat := if errS s = 0 then (((feedL s.lim s.txt c).1, O ++ (feedL s.lim s.txt c).2), 0) else ((zeroS, []), errS s)
def FeedPost (base : Nat) (R : (Sp × List Ln) × Nat) (e : Ending) (w : World) : Prop := ∃ v, e = .returned (.tuple #[spV R.1.1, v, .int .i64 (R.2 : Nat)]) ∧ w.ownsRow base 27 2 v R.1.2.length (lnsC R.1.2)
theorem sp_result2 {w : World} {B : Nat} {a b c : Value} (h1 : CBlk 24 w B [a, b, c]) {fn : Func} {p q r : Tmp} (h : fn.results = #[.cell p 24, .tmp q, .tmp r]) (tmps : Array Value) (x y : Value)
    (hp : tmps.getD p undef = .pointer (some ⟨B, 0, none⟩)) (hq : tmps.getD q undef = x) (hr : tmps.getD r undef = y) : (Go.results fn tmps).run Try.prog w = .ok (.tuple #[.agg #[a, b, c], x, y]) w := by
  have hp' : tmps[p]?.getD undef = .pointer (some ⟨B, 0, none⟩) := by simpa using hp
  have hq' : tmps[q]?.getD undef = x := by simpa using hq
  have hr' : tmps[r]?.getD undef = y := by simpa using hr
  obtain ⟨c0, c1, c2⟩ := h1.cells3
  simp [Go.results, h, hp', hq', hr', asAddr, go_sem, c0, c1, c2]
end Go.Proofs.Ytfagjhadfonhdaa
