/-
  The law text's own function of: the set of the bytes of a string, for every string that memory holds.
-/
import Derived.Test.YtbpnhiejmkeclaaDoorRanges
import Derived.Test.YtbpnhiejmkeclaaDoorParse
import Derived.Lib.Hide
namespace Go.Proofs.YtbpnhiejmkeclaaDoor
open Go.RowKit
/-- The set of some bytes. -/
def setOf (l : List Nat) : WSet := l.foldl WSet.add .empty
theorem addTo_take (s : WSet) (l : List Nat) : ∀ k, k ≤ l.length → addTo s (fun j => l.getD j 0) k = (l.take k).foldl WSet.add s
  | 0, _ => by simp [addTo]
  | k + 1, h => by
    have hk : k < l.length := by omega
    rw [addTo, addTo_take s l k (by omega), List.take_succ_eq_append_getElem hk, List.foldl_append]
    simp [List.getD, List.getElem?_eq_getElem hk]
theorem addTo_setOf (l : List Nat) : addTo .empty (fun j => l.getD j 0) l.length = setOf l := by
  rw [addTo_take _ _ _ (Nat.le_refl _), List.take_length]; rfl
theorem addTo_congr (s : WSet) (f g : Nat → Nat) : ∀ k, (∀ j, j < k → f j = g j) → addTo s f k = addTo s g k
  | 0, _ => rfl
  | k + 1, h => by rw [addTo, addTo, addTo_congr s f g k (fun j hj => h j (by omega)), h k (by omega)]
/-- The bytes of a string. -/
def bytesN (s : ByteArray) : List Nat := s.data.toList.map UInt8.toNat
theorem bytesN_length (s : ByteArray) : (bytesN s).length = s.size := by
  unfold bytesN
  rw [List.length_map, Array.length_toList]; rfl
theorem bytesN_get (s : ByteArray) (j : Nat) (h : j < s.data.size) : (bytesN s).getD j 0 = (s.data[j]).toNat := by
  unfold bytesN
  rw [List.getD_eq_getElem?_getD, List.getElem?_map, Array.getElem?_toList, Array.getElem?_eq_getElem h]
  rfl
theorem bytesN_lt (s : ByteArray) (j : Nat) (h : j < s.size) : (bytesN s).getD j 0 < 256 := by
  rw [bytesN_get s j h]
  exact UInt8.toNat_lt _
theorem bytesRow_cell (s : ByteArray) (cap j : Nat) (h : j < s.size) : (bytesRow s cap)[j]? = some (.int .u8 ((bytesN s).getD j 0 : Nat)) := by
  have h2 : j < s.data.size := h
  rw [bytesN_get s j h2]
  unfold bytesRow
  rw [Array.getElem?_append_left (by rw [Array.size_map]; exact h2), Array.getElem?_map, Array.getElem?_eq_getElem h2]
  rfl
/-- A slice of the bytes of a string, fresh from a conversion. -/
theorem of_bytes (s : ByteArray) (hs : s.size ≤ maxLen) (cap : Nat) (B : Nat) (W : World) (hB : B < W.heap.size) (fr : Nat × Nat) (hb : W.heap[B]? = some (.cells (bytesRow s cap) 5 fr)) :
    Calls Tryd.prog 25 #[.slice (some ⟨B, 0, none⟩) s.size cap] W fun e w' => e = .returned (setOf (bytesN s)).v ∧ Below W.heap.size W w' := by
  refine (of_any B 0 s.size cap (fun j => (bytesN s).getD j 0) (fun j hj => bytesN_lt s j hj) hs W hB (fun j hj => ?_)).mono ?_
  · rw [Nat.zero_add, cell_of_row W B j _ _ _ hb, bytesRow_cell s cap j hj]
  · rintro e w' ⟨rfl, h⟩
    refine ⟨?_, h⟩
    rw [← addTo_setOf, bytesN_length]
theorem of_bytes2 (s : ByteArray) (hs : s.size ≤ maxLen) (cap : Nat) (w : World) (o : Obj) (fr : Nat × Nat) :
    Calls Tryd.prog 25 #[.slice (some ⟨w.heap.size + 1, 0, none⟩) s.size cap] ((w.alloc o).alloc (.cells (bytesRow s cap) 5 fr)).drew fun e w' => e = .returned (setOf (bytesN s)).v ∧ Below w.heap.size w w' :=
  (of_bytes s hs cap (w.heap.size + 1) ((w.alloc o).alloc (.cells (bytesRow s cap) 5 fr)).drew (by simp) fr (heap_alloc2_new w _ _)).mono fun e w' ⟨he, hb⟩ =>
    ⟨he, ((((Below.refl _ w).alloc (Nat.le_refl _) _).alloc (by simp) _).drew).trans (hb.mono (by simp; omega))⟩
set_option maxHeartbeats 1000000 in
theorem of_str (s : ByteArray) (hs : s.size ≤ maxLen) (w : World) :
    Calls Tryd.prog 37 #[.string s] w fun e w' => e = .returned (setOf (bytesN s)).v ∧ Below w.heap.size w w' := by
  have hcv := fun w => run_bytes_of_string (P := Tryd.prog) w 9 31 5 s Tryd.underlying9 Tryd.underlying31 Tryd.underlying5
  go_enter Tryd.func37, Tryd.ntmps37
  go_wp2_with fail
  clear hcv
  generalize grownCap _ _ _ _ = cap
  have hA := Blk.new0 w
  refine (of_bytes s hs cap (w.heap.size + 1) ((w.alloc (.cells #[.int .u64 0, .int .u64 0, .int .u64 0, .int .u64 0] 24)).alloc (.cells (bytesRow s cap) 5 _)).drew (by simp) _ (heap_alloc2_new w _ _)).mono ?_
  rintro e w1 ⟨rfl, hb1⟩
  have a1 : Blk w1 w.heap.size .empty := (((Blk.new0 w).alloc _).drew).below hb1 (by simp; omega)
  have hz1 := hb1.size
  have hB1 : Below w.heap.size w w1 := ((((Below.refl _ w).alloc (Nat.le_refl _) _).alloc (by simp) _).drew).trans (hb1.mono (by simp; omega))
  clear hb1
  obtain ⟨d0, d1, d2, d3⟩ := a1.cells
  obtain ⟨f0, f1, f2, f3⟩ := a1.frees
  obtain ⟨r, hr⟩ : ∃ r, setOf (bytesN s) = r := ⟨_, rfl⟩
  rw [hr]
  have HR := Lib.hid hr
  clear hr
  go_wp2_with fail
  have b1 := a1.store r
  exact bodyPost_ret (b1.results rfl _ rfl) rfl ⟨by rw [HR.out], Blk.belowStore r hB1 (Nat.le_refl _)⟩
end Go.Proofs.YtbpnhiejmkeclaaDoor
