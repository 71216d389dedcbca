/-
  bytes.Trim at blanks and tabs, by the library's contract; slices of bytes that hold parts of a list.
-/
import Derived.Test.YtekbahpobhjobaaDoorNLay
import Derived.Test.YtekbahpobhjobaaDoorNSameF
import Derived.Test.YtekbahpobhjobaaDoorICells
import Derived.Test.YtekbahpobhjobaaDoorNVal
namespace Go.Proofs.YtekbahpobhjobaaDoor
open Go.RowKit
theorem tr_cons (c : UInt8) (r : List UInt8) : tr (c :: r) = if isBl c = true ∧ tr r = [] then [] else c :: tr r := by
  unfold tr
  rw [List.reverse_cons, List.dropWhile_append]
  cases h : (r.reverse.dropWhile isBl).isEmpty
  · have hne : ¬ r.reverse.dropWhile isBl = [] := by
      intro e; rw [e] at h; cases h
    rw [if_neg (by simp), if_neg (by rintro ⟨-, h2⟩; exact hne (by simpa using h2))]
    simp
  · have he : r.reverse.dropWhile isBl = [] := List.isEmpty_iff.1 h
    rw [he]
    cases hc : isBl c
    · simp [hc]
    · simp [hc]
theorem tl_tr : ∀ l, tl (tr l) = tr (tl l)
  | [] => rfl
  | c :: r => by
    rw [tr_cons, tl_cons]
    cases hc : isBl c
    · rw [if_neg (by simp), if_neg (by simp), tl_cons, hc, if_neg (by simp), tr_cons, if_neg (by simp [hc])]
    · rw [if_pos rfl]
      by_cases h : tr r = []
      · rw [if_pos ⟨rfl, h⟩, ← tl_tr r, h]
      · rw [if_neg (fun h2 => h h2.2), tl_cons, hc, if_pos rfl, tl_tr r]
theorem contains_bl : (fun c : UInt8 => [(32 : UInt8), 9].contains c) = isBl := by
  funext c
  simp only [isBl, List.contains_cons, List.contains_nil, Bool.or_false]
theorem trimS_is (l : List UInt8) : Lib.trimS l [32, 9] = trimL l ∧ Lib.trimRightS l [32, 9] = tr l := by
  have e : Lib.trimRightS l [32, 9] = tr l := by
    unfold Lib.trimRightS tr
    rw [← contains_bl]
  refine ⟨?_, e⟩
  unfold Lib.trimS trimL
  rw [e, ← tl_tr]
  unfold Lib.trimLeftS tl
  rw [← contains_bl]
/-- Where the trimmed text stands in the text. -/
theorem trim_place (l : List UInt8) : ∃ a b : List UInt8, l = a ++ trimL l ++ b ∧ (tr l).length = a.length + (trimL l).length := by
  have h1 : trimL l <:+ tr l := by
    unfold trimL
    rw [← tl_tr]
    exact List.dropWhile_suffix _
  have h2 : tr l <+: l := by
    unfold tr
    have := List.dropWhile_suffix (l := l.reverse) isBl
    have := List.reverse_prefix.2 this
    simpa using this
  obtain ⟨a, ha⟩ := h1
  obtain ⟨b, hb⟩ := h2
  exact ⟨a, b, by rw [ha, hb], by rw [← ha, List.length_append]⟩
/-- A slice of bytes that holds e. -/
def IsPart (w : World) (v : Value) (e : List UInt8) : Prop := ∃ p cap, v = .slice p e.length cap ∧ CellsIn w p e.length (byteC e)
theorem IsPart.below {k : Nat} {w w' : World} {v : Value} {e : List UInt8} (h : IsPart w v e) (hb : Below k w w') (hk : w.heap.size ≤ k) : IsPart w' v e := by
  obtain ⟨p, cap, h1, h2⟩ := h
  exact ⟨p, cap, h1, h2.below hb hk⟩
theorem byteC_at {l : List UInt8} {j : Nat} (h : j < l.length) : byteC l j = .int .u8 ((l[j]).toNat : Int) := by
  unfold byteC
  rw [List.getD_eq_getElem?_getD, List.getElem?_eq_getElem h]
  rfl
theorem bytesAt_of {w : World} {p : Option Addr} {l : List UInt8} (h : CellsIn w p l.length (byteC l)) : Lib.BytesAt w p l.length l := fun h0 => by
  obtain ⟨b, off, rfl, h1, h2⟩ := h 0 h0
  exact ⟨b, off, rfl, fun i hi => h.cell i hi⟩
/-- The part of a slice. -/
theorem part_sub {w : World} {b off : Nat} {l : List UInt8} (h : CellsIn w (some ⟨b, off, none⟩) l.length (byteC l)) (x e y : List UInt8) (hl : l = x ++ e ++ y) : CellsIn w (some ⟨b, off + x.length, none⟩) e.length (byteC e) := fun j hj => by
  have hlen : l.length = x.length + e.length + y.length := by rw [hl]; simp [Nat.add_assoc]
  obtain ⟨b', off', e', h1, h2⟩ := h (x.length + j) (by omega)
  injection e' with e'
  injection e' with e1 e2
  subst e1 e2
  refine ⟨b, off + x.length, rfl, h1, ?_⟩
  rw [Nat.add_assoc, h2, byteC_at (by omega), byteC_at hj]
  have hat : l[x.length + j]'(by omega) = e[j] := by
    simp only [hl]
    rw [List.getElem_append_left (by simp; omega), List.getElem_append_right (by omega)]
    simp only [Nat.add_sub_cancel_left]
  rw [hat]
set_option maxHeartbeats 1000000 in
theorem trim_any (p : Option Addr) (c : Nat) (l : List UInt8) (w : World) (hnc : l.length ≤ c) (hbig : c ≤ 9223372036854775807) (h1 : CellsIn w p l.length (byteC l)) :
    Calls Tryd.prog 40 #[.slice p l.length c, .string ⟨#[32, 9]⟩] w fun e w' => ∃ v, e = .returned v ∧ (∀ W, CellsIn W p l.length (byteC l) → IsPart W v (trimL l)) ∧ Below w.heap.size w w' := by
  have h27 : (Tryd.prog.info? 62).map (fun i => (i.zero, i.size)) = some (some (.agg (Array.replicate 256 (.bool false))), 256) := by kernel_rfl
  refine (Any.bytes_Trim_ascii laysV6 (zero_of_info h27).1 (zero_of_info h27).2 p l.length c l ⟨#[32, 9]⟩ w rfl hnc hbig (bytesAt_of h1) (by show (2 : Nat) < _; omega) (fun j b hj => ?_)).mono ?_
  · match j with
    | 0 => simp at hj; subst hj; decide
    | 1 => simp at hj; subst hj; decide
    | j + 2 => simp at hj
  · rintro e w' ⟨rfl, hb⟩
    refine ⟨_, rfl, fun W h1 => ?_, hb⟩
    obtain ⟨t1, t2⟩ := trimS_is l
    obtain ⟨x, y, hx, hy⟩ := trim_place l
    show IsPart W (Lib.leftV p (Lib.trimRightS l [32, 9]).length c ((Lib.trimRightS l [32, 9]).length - (Lib.trimS l [32, 9]).length)) (trimL l)
    rw [t1, t2, hy, Nat.add_sub_cancel]
    generalize trimL l = z at hx ⊢
    unfold Lib.leftV
    by_cases h0 : z.length = 0
    · rw [if_pos (by omega)]
      obtain rfl : z = [] := List.eq_nil_of_length_eq_zero h0
      exact ⟨none, 0, rfl, fun j hj => absurd hj (by simp)⟩
    · have hlen : l.length = x.length + z.length + y.length := by rw [hx]; simp [Nat.add_assoc]
      obtain ⟨b, off, rfl, -, -⟩ := h1 0 (by omega)
      rw [if_neg (by omega)]
      unfold Lib.fromV
      rw [if_neg (by omega), Nat.add_sub_cancel_left]
      refine ⟨some ⟨b, off + x.length, none⟩, c - x.length, ?_, part_sub h1 x z y hx⟩
      rw [Option.map_some, Lib.add_plain]
end Go.Proofs.YtekbahpobhjobaaDoor
