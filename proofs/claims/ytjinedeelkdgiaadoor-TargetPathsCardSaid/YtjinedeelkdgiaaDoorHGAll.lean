/-
  byteset.All for every set and every text that memory holds: are all bytes of the text in the set?
-/
import Derived.Test.YtjinedeelkdgiaaDoorHRanges
import Derived.Test.YtjinedeelkdgiaaDoorHOwn
namespace Go.Proofs.YtjinedeelkdgiaaDoor
open Go.RowKit
attribute [local go_sem] eq_sets w_0 w_1 w_2 w_3
/-- The set of some bytes. -/
def setOf (l : List Nat) : WSet := l.foldl WSet.add .empty
theorem addTo_take (s : WSet) (l : List Nat) : ∀ k, k ≤ l.length → addTo s (fun j => l.getD j 0) k = (l.take k).foldl WSet.add s
  | 0, _ => by simp [addTo]
  | k + 1, h => by
    have hk : k < l.length := by omega
    rw [addTo, addTo_take s l k (by omega), List.take_succ_eq_append_getElem hk, List.foldl_append]
    simp [List.getD, List.getElem?_eq_getElem hk]
theorem addTo_setOf (l : List Nat) : addTo .empty (fun j => l.getD j 0) l.length = setOf l := by
  rw [addTo_take _ _ _ (Nat.le_refl _), List.take_length]; rfl
theorem addTo_congr (s : WSet) (f g : Nat → Nat) : ∀ k, (∀ j, j < k → f j = g j) → addTo s f k = addTo s g k
  | 0, _ => rfl
  | k + 1, h => by rw [addTo, addTo, addTo_congr s f g k (fun j hj => h j (by omega)), h k (by omega)]
/-- The bytes of a string. -/
def bytesN (s : ByteArray) : List Nat := s.data.toList.map UInt8.toNat
theorem bytesN_length (s : ByteArray) : (bytesN s).length = s.size := by
  unfold bytesN
  rw [List.length_map, Array.length_toList]; rfl
theorem bytesN_get (s : ByteArray) (j : Nat) (h : j < s.data.size) : (bytesN s).getD j 0 = (s.data[j]).toNat := by
  unfold bytesN
  rw [List.getD_eq_getElem?_getD, List.getElem?_map, Array.getElem?_toList, Array.getElem?_eq_getElem h]
  rfl
theorem bytesN_lt (s : ByteArray) (j : Nat) (h : j < s.size) : (bytesN s).getD j 0 < 256 := by
  rw [bytesN_get s j h]
  exact UInt8.toNat_lt _
theorem bytesRow_cell (s : ByteArray) (cap j : Nat) (h : j < s.size) : (bytesRow s cap)[j]? = some (.int .u8 ((bytesN s).getD j 0 : Nat)) := by
  have h2 : j < s.data.size := h
  rw [bytesN_get s j h2]
  unfold bytesRow
  rw [Array.getElem?_append_left (by rw [Array.size_map]; exact h2), Array.getElem?_map, Array.getElem?_eq_getElem h2]
  rfl
/-- A slice of the bytes of a string, fresh from a conversion. -/
theorem of_bytes (s : ByteArray) (hs : s.size ≤ maxLen) (cap : Nat) (B : Nat) (W : World) (hB : B < W.heap.size) (fr : Nat × Nat) (hb : W.heap[B]? = some (.cells (bytesRow s cap) 5 fr)) :
    Calls Tryd.prog 78 #[.slice (some ⟨B, 0, none⟩) s.size cap] W fun e w' => e = .returned (setOf (bytesN s)).v ∧ Below W.heap.size W w' := by
  refine (of_any B 0 s.size cap (fun j => (bytesN s).getD j 0) (fun j hj => bytesN_lt s j hj) hs W hB (fun j hj => ?_)).mono ?_
  · rw [Nat.zero_add, cell_of_row W B j _ _ _ hb, bytesRow_cell s cap j hj]
  · rintro e w' ⟨rfl, h⟩
    refine ⟨?_, h⟩
    rw [← addTo_setOf, bytesN_length]
/-- Are all bytes of the text in s? As byteset.All asks it. -/
def allB (s : WSet) (l : List Nat) : Bool := decide ((s.or (setOf l)) = s)
theorem decide_eq_sets (s t : WSet) : decide (s = t) = ((s.a.toNat : Int) == (t.a.toNat : Int) && ((s.b.toNat : Int) == (t.b.toNat : Int) && ((s.c.toNat : Int) == (t.c.toNat : Int) && ((s.d.toNat : Int) == (t.d.toNat : Int))))) := by
  have key : ∀ x y : BitVec 64, ((x.toNat : Int) == (y.toNat : Int)) = decide (x = y) := by
    intro x y
    rw [Bool.eq_iff_iff]
    simp [BitVec.toNat_eq]
    omega
  rw [key, key, key, key]
  obtain ⟨a, b, c, d⟩ := s
  obtain ⟨e, f, g, h⟩ := t
  simp [Bool.decide_and]
theorem of_bytes3 (s : ByteArray) (hs : s.size ≤ maxLen) (cap : Nat) (w : World) (fr : Nat × Nat) (B : Nat) (hB : w.heap.size = B) :
    Calls Tryd.prog 78 #[.slice (some ⟨B, 0, none⟩) s.size cap] (w.alloc (.cells (bytesRow s cap) 5 fr)).drew.drew fun e w' => e = .returned (setOf (bytesN s)).v ∧ Below w.heap.size w w' := by
  subst hB
  exact (of_bytes s hs cap w.heap.size (w.alloc (.cells (bytesRow s cap) 5 fr)).drew.drew (by simp) fr (heap_alloc_new w _)).mono fun e w' ⟨he, hb⟩ =>
    ⟨he, ((((Below.refl _ w).alloc (Nat.le_refl _) _).drew).drew).trans (hb.mono (by simp))⟩
set_option maxHeartbeats 4000000 in
theorem all_any (a b c d : BitVec 64) (s : ByteArray) (hs : s.size ≤ maxLen) (w : World) :
    Calls Tryd.prog 53 #[.agg #[.int .u64 a.toNat, .int .u64 b.toNat, .int .u64 c.toNat, .int .u64 d.toNat], .string s] w fun e w' => e = .returned (.bool (allB ⟨a, b, c, d⟩ (bytesN s))) ∧ Below w.heap.size w w' := by
  have hcv := fun w => run_bytes_of_string (P := Tryd.prog) w 9 43 5 s Tryd.underlying9 Tryd.underlying43 Tryd.underlying5
  go_enter Tryd.func53, Tryd.ntmps53
  go_wp2_with fail
  have h2 := Blk.new w ⟨a, b, c, d⟩
  obtain ⟨W0, hW0⟩ : ∃ W0, w.alloc (.cells #[.int .u64 a.toNat, .int .u64 b.toNat, .int .u64 c.toNat, .int .u64 d.toNat] 38) = W0 := ⟨_, rfl⟩
  have hB0 : Below w.heap.size w W0 := by rw [← hW0]; exact (Below.refl _ w).alloc (Nat.le_refl _) _
  rw [hW0] at h2 ⊢
  clear hW0
  have hz0 : w.heap.size < W0.heap.size := h2.lt
  obtain ⟨c0, c1, c2, c3⟩ := h2.cells
  go_region_with (first
    | (go_at_call 78; refine (of_bytes3 s hs _ W0 _ _ rfl).mono ?_; rintro e w5 ⟨rfl, hb5⟩; have hz5 : w.heap.size < w5.heap.size := Nat.lt_of_lt_of_le hz0 hb5.size; have b5 : Blk w5 w.heap.size ⟨a, b, c, d⟩ := Blk.below h2 hb5 hz0; obtain ⟨c50, c51, c52, c53⟩ := b5.cells)
    | (go_at_call 73; refine (union2 _ _ _ _ _ _ _ _ _).mono ?_; rintro e w6 ⟨rfl, hb6⟩; have hz6 : w.heap.size < w6.heap.size := Nat.lt_of_lt_of_le hz5 hb6.size; have b6 : Blk w6 w.heap.size ⟨a, b, c, d⟩ := Blk.below b5 hb6 (by omega); obtain ⟨c60, c61, c62, c63⟩ := b6.cells))
  all_goals
    go_wp2
    go_ret
    exact ⟨by rw [allB, decide_eq_sets]; rfl, (hB0.trans (hb5.mono (by omega))).trans (hb6.mono (by omega))⟩
theorem has_empty (b : Nat) : WSet.empty.has b = false := by
  unfold WSet.has WSet.empty
  have : (WSet.mk 0 0 0 0).w (b / 64) = 0#64 := by
    unfold WSet.w
    split <;> rfl
  rw [this]; simp
theorem has_or (s t : WSet) (b : Nat) : (s.or t).has b = (s.has b || t.has b) := by
  have h : (s.or t).w (b / 64) = s.w (b / 64) ||| t.w (b / 64) := by
    unfold WSet.or WSet.w
    split <;> rfl
  unfold WSet.has
  rw [h, BitVec.getLsbD_or]
theorem w_set (s : WSet) (i j : Nat) (hi : i < 4) (hj : j < 4) (x : BitVec 64) : (s.set i x).w j = if j = i then x else s.w j := by
  match i, hi, j, hj with
  | 0, _, 0, _ | 0, _, 1, _ | 0, _, 2, _ | 0, _, 3, _ => rfl
  | 1, _, 0, _ | 1, _, 1, _ | 1, _, 2, _ | 1, _, 3, _ => rfl
  | 2, _, 0, _ | 2, _, 1, _ | 2, _, 2, _ | 2, _, 3, _ => rfl
  | 3, _, 0, _ | 3, _, 1, _ | 3, _, 2, _ | 3, _, 3, _ => rfl
theorem bit_one (n k : Nat) (hn : n < 64) (hk : k < 64) : (1#64 <<< n).getLsbD k = decide (k = n) := by
  rw [BitVec.getLsbD_shiftLeft]
  by_cases h : k = n
  · subst h; simp [hk]
  · by_cases h2 : k < n
    · simp [h2, h]
    · have : k - n ≠ 0 := by omega
      simp [h, h2, hk, this]
theorem has_add (s : WSet) (n b : Nat) (hn : n < 256) (hb : b < 256) : (s.add n).has b = (s.has b || decide (b = n)) := by
  unfold WSet.has WSet.add
  rw [w_set _ _ _ (by omega) (by omega)]
  by_cases h : b / 64 = n / 64
  · rw [if_pos h, BitVec.getLsbD_or, bit_one _ _ (by omega) (by omega), h]
    congr 1
    rw [decide_eq_decide]
    omega
  · rw [if_neg h]
    have : b ≠ n := by rintro rfl; exact h rfl
    simp [this]
theorem ext_has {s t : WSet} (h : ∀ b, b < 256 → s.has b = t.has b) : s = t := by
  have key : ∀ j, j < 4 → s.w j = t.w j := by
    intro j hj
    refine BitVec.eq_of_getLsbD_eq fun i hi => ?_
    have := h (64 * j + i) (by omega)
    unfold WSet.has at this
    rw [show (64 * j + i) / 64 = j by omega, show (64 * j + i) % 64 = i by omega] at this
    exact this
  obtain ⟨a, b, c, d⟩ := s
  obtain ⟨e, f, g, k⟩ := t
  have h0 : a = e := key 0 (by omega)
  have h1 : b = f := key 1 (by omega)
  have h2 : c = g := key 2 (by omega)
  have h3 : d = k := key 3 (by omega)
  rw [h0, h1, h2, h3]
theorem has_foldl (b : Nat) (hb : b < 256) : ∀ (l : List Nat) (s : WSet), (∀ x ∈ l, x < 256) → (l.foldl WSet.add s).has b = (s.has b || decide (b ∈ l))
  | [], s, _ => by simp
  | x :: l, s, h => by
    show (l.foldl WSet.add (s.add x)).has b = _
    rw [has_foldl b hb l _ (fun y hy => h y (List.mem_cons_of_mem _ hy)), has_add _ _ _ (h x List.mem_cons_self) hb, Bool.or_assoc, ← Bool.decide_or]
    congr 1
    rw [decide_eq_decide, List.mem_cons]
theorem allB_all (s : WSet) (l : List UInt8) : allB s (l.map UInt8.toNat) = l.all fun b => s.has b.toNat := by
  have hlt : ∀ x ∈ l.map UInt8.toNat, x < 256 := fun x hx => by
    obtain ⟨b, _, rfl⟩ := List.mem_map.1 hx
    exact UInt8.toNat_lt b
  unfold allB
  rw [Bool.eq_iff_iff, decide_eq_true_iff, List.all_eq_true]
  constructor
  · intro h b hb
    have hm : b.toNat ∈ l.map UInt8.toNat := List.mem_map_of_mem hb
    have h1 : (s.or (setOf (l.map UInt8.toNat))).has b.toNat = true := by
      rw [has_or]
      unfold setOf
      rw [has_foldl _ (UInt8.toNat_lt b) _ _ hlt, has_empty]
      simp only [decide_eq_true hm, Bool.or_true]
    rw [h] at h1
    exact h1
  · intro h
    refine ext_has fun b hb => ?_
    rw [has_or]
    unfold setOf
    rw [has_foldl _ hb _ _ hlt, has_empty, Bool.false_or]
    by_cases hm : b ∈ l.map UInt8.toNat
    · obtain ⟨x, hx, rfl⟩ := List.mem_map.1 hm
      rw [h x hx]; rfl
    · rw [decide_eq_false hm, Bool.or_false]
theorem bytesN_mk (l : List UInt8) : bytesN ⟨l.toArray⟩ = l.map UInt8.toNat := rfl
theorem tall_any (a b c d : BitVec 64) (l : List UInt8) (hs : l.length ≤ maxLen) (w : World) :
    Calls Tryd.prog 53 #[.agg #[.int .u64 a.toNat, .int .u64 b.toNat, .int .u64 c.toNat, .int .u64 d.toNat], .string ⟨l.toArray⟩] w fun e w' => e = .returned (.bool (l.all fun x => (WSet.mk a b c d).has x.toNat)) ∧ Below w.heap.size w w' := by
  have h := all_any a b c d ⟨l.toArray⟩ hs w
  rw [bytesN_mk, allB_all] at h
  exact h
end Go.Proofs.YtjinedeelkdgiaaDoor
