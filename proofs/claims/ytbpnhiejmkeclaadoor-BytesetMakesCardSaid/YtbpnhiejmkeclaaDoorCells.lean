/-
  A slice, nil or not, whose cells are known; a copy of it, appended onto an empty slice; the string of its bytes. No condition but the slice's own cells.
-/
import Derived.Test.YtbpnhiejmkeclaaDoorRefRanges
import Derived.Test.YtbpnhiejmkeclaaDoorRefList
import Derived.Deep.AppendSrc
namespace Go.Proofs.YtbpnhiejmkeclaaDoor
open Go.RowKit Go.Shelf
/-- The first n cells behind p. -/
def CellsIn (w : World) (p : Option Addr) (n : Nat) (C : Nat → Value) : Prop := ∀ j, j < n → ∃ b off : Nat, p = some ⟨b, off, none⟩ ∧ b < w.heap.size ∧ w.cell? ⟨b, off + j, none⟩ = some (C j)
theorem CellsIn.below {n k : Nat} {w w' : World} {p : Option Addr} {C : Nat → Value} (h : CellsIn w p n C) (hb : Below k w w') (hk : w.heap.size ≤ k) : CellsIn w' p n C := fun j hj => by
  obtain ⟨b, off, e, h1, h2⟩ := h j hj
  exact ⟨b, off, e, Nat.lt_of_lt_of_le h1 hb.size, (hb.cell (p := ⟨b, off + j, none⟩) (Nat.lt_of_lt_of_le h1 hk)).trans h2⟩
theorem CellsIn.of_own {W : World} {base m size : Nat} {e : TypeId} {v : Value} {C : Nat → Value} (h : W.ownsRow base e size v m ((List.range (m * size)).map C)) (hne : v ≠ .slice none 0 0) : ∃ g c, v = .slice (some ⟨g, 0, none⟩) m c ∧ g < W.heap.size ∧ CellsIn W (some ⟨g, 0, none⟩) (m * size) C := by
  rcases h.2 with ⟨rfl, rfl⟩ | ⟨g, cap, cur, rfl, hg, hh, h1, h2, h3, h4⟩
  · exact (hne rfl).elim
  · refine ⟨_, _, rfl, lt_of_block hh, fun j hj => ⟨g, 0, rfl, lt_of_block hh, ?_⟩⟩
    rw [Nat.zero_add, cell_of_row W g j cur _ _ hh]
    have e1 : (cur.toList.take (m * size))[j]? = ((List.range (m * size)).map C)[j]? := by rw [h4]
    rw [List.getElem?_take_of_lt hj] at e1
    rw [← Array.getElem?_toList, e1, List.getElem?_map, List.getElem?_range hj]
    rfl
theorem CellsIn.cell {w : World} {b off n : Nat} {C : Nat → Value} (h : CellsIn w (some ⟨b, off, none⟩) n C) (j : Nat) (hj : j < n) : w.cell? ⟨b, off + j, none⟩ = some (C j) := by
  obtain ⟨b', off', e, h1, h2⟩ := h j hj
  injection e with e
  injection e with e1 e2
  subst e1 e2
  exact h2
section
variable {P : Program}
theorem run_append_copy (w : World) (t ty e : TypeId) (i : TypeInfo) (z : Value) (size bytes : Nat) (ht : P.underlying t = some (.slice e)) (hi : P.info? e = some i) (hz : i.zero = some z)
    (hsize : i.size = size) (hby : i.bytes = bytes) (hzs : z.cells.size = size) (hsz : 0 < size) (B : Nat) (hB : w.heap[B]? = some (.cells #[] e (0, 0)))
    (p : Option Addr) (m c : Nat) (C : Nat → Value) (hp : p = none → m = 0 ∧ c = 0) (hC : CellsIn w p (m * size) C) (hone : ∀ j, j < m * size → (C j).oneCell' = true) (hm : m ≤ 40) (hbytes : bytes ≤ 1000) :
    ∃ g c' w', (Builtin.append_ #[t, t] ty #[.slice (some ⟨B, 0, none⟩) 0 0, .slice p m c]).run P w = .ok (.slice (some ⟨g, 0, none⟩) m c') w' ∧ CellsIn w' (some ⟨g, 0, none⟩) (m * size) C ∧ g < w'.heap.size ∧ Below B w w' := by
  cases p with
  | none =>
    obtain ⟨rfl, rfl⟩ := hp rfl
    have hs : Src P i.size t (.slice none 0 0) 0 [] w := Src.ofNil w ht 0
    have hr := run_append_room_src (P := P) w t t ty e i ht hi B 0 0 0 _ 0 [] hs (Nat.le_refl _) (fun j hj => by simp at hj) (fun j hj => by simp at hj)
    exact ⟨_, _, _, hr, (fun j hj => by simp at hj), lt_of_block hB, Below.refl B w⟩
  | some ad =>
    have hown : w.ownsRow B e size (.slice (some ⟨B, 0, none⟩) 0 0) 0 [] := ⟨by simp, .inr ⟨B, 0, #[], rfl, Nat.le_refl _, hB, Nat.le_refl _, by unfold maxLen; omega, by simp, by simp⟩⟩
    have hlt : B < w.heap.size := lt_of_block hB
    obtain ⟨v', w', h1, h2, h3, h6⟩ := run_append_own (P := P) w B t ty e i z size bytes ht hi hz hsize hby hzs hsz (.slice (some ⟨B, 0, none⟩) 0 0) 0 [] hown ad m c ((List.range (m * size)).map C) (by simp) (fun j u hu => by
      rw [List.getElem?_map] at hu
      by_cases hj : j < m * size
      · rw [List.getElem?_range hj] at hu
        obtain ⟨b, off, e1, h1, h2⟩ := hC j hj
        injection e1 with e1
        subst e1
        rw [Addr.add_lit, h2]
        simpa using hu
      · rw [List.getElem?_eq_none (by simp; omega)] at hu
        cases hu) (fun u hu => by
      obtain ⟨j, hj, rfl⟩ := List.mem_map.1 hu
      exact hone j (List.mem_range.1 hj)) (by unfold maxLen; omega) (by
        have : (0 + m) * bytes ≤ 40 * 1000 := Nat.mul_le_mul (by omega) hbytes
        omega) (Nat.le_of_lt hlt)
    rw [Nat.zero_add, List.nil_append] at h2
    obtain ⟨q, c', rfl, h4, h5⟩ := CellsIn.of_own h2 (fun e => by have := (h6.1 e).1; cases this)
    exact ⟨q, c', w', h1, h5, h4, ⟨h3.os, h3.tape, h3.output, h3.size, fun k hk => h3.block k (Nat.lt_trans hk hlt) (fun e => by
      have e2 : k = B := by simpa [Value.ownBlock] using e
      omega)⟩⟩
theorem wp_append_copy {o : Oper} {a : Act} {K : Act → World → Prop} {Q : Exit → Act → World → Prop} (w : World) (s x : Operand) (t : TypeId)
    (ho : o.op = .call { callee := .builtin .append, args := #[s, x], argTypes := #[t, t] })
    (e : TypeId) (i : TypeInfo) (z : Value) (size bytes : Nat) (ht : P.underlying t = some (.slice e)) (hi : P.info? e = some i) (hz : i.zero = some z)
    (hsize : i.size = size) (hby : i.bytes = bytes) (hzs : z.cells.size = size) (hsz : 0 < size) (B : Nat) (hs : a.eval s = .slice (some ⟨B, 0, none⟩) 0 0) (hB : w.heap[B]? = some (.cells #[] e (0, 0)))
    (p : Option Addr) (m c : Nat) (C : Nat → Value) (hx : a.eval x = .slice p m c) (hp : p = none → m = 0 ∧ c = 0) (hC : CellsIn w p (m * size) C) (hone : ∀ j, j < m * size → (C j).oneCell' = true) (hm : m ≤ 40) (hbytes : bytes ≤ 1000)
    (h : ∀ g c' w', CellsIn w' (some ⟨g, 0, none⟩) (m * size) C → g < w'.heap.size → Below B w w' → K (a.put o.dst (.slice (some ⟨g, 0, none⟩) m c')) w') : o.wp P a w K Q := by
  obtain ⟨q, c', w', hr, h2, h3, h4⟩ := run_append_copy (P := P) w t o.type e i z size bytes ht hi hz hsize hby hzs hsz B hB p m c C hp hC hone hm hbytes
  unfold Oper.wp execOp
  simp only [ho, resolve, invoke, builtin, Sem.run_bind, Sem.run_pure, Result.andThen_ok, List.map_toArray, List.map_cons, List.map_nil, hs, hx, hr]
  exact h q c' w' h2 h3 h4
theorem wpList_append_copy {ops : Array Oper} {rest : List Oper} {o : Oper} {a : Act} {Q : Exit → Act → World → Prop} (w : World) (hgd : o.guard = none) (s x : Operand) (t : TypeId)
    (ho : o.op = .call { callee := .builtin .append, args := #[s, x], argTypes := #[t, t] })
    (e : TypeId) (i : TypeInfo) (z : Value) (size bytes : Nat) (ht : P.underlying t = some (.slice e)) (hi : P.info? e = some i) (hz : i.zero = some z)
    (hsize : i.size = size) (hby : i.bytes = bytes) (hzs : z.cells.size = size) (hsz : 0 < size) (B : Nat) (hs : a.eval s = .slice (some ⟨B, 0, none⟩) 0 0) (hB : w.heap[B]? = some (.cells #[] e (0, 0)))
    (p : Option Addr) (m c : Nat) (C : Nat → Value) (hx : a.eval x = .slice p m c) (hp : p = none → m = 0 ∧ c = 0) (hC : CellsIn w p (m * size) C) (hone : ∀ j, j < m * size → (C j).oneCell' = true) (hm : m ≤ 40) (hbytes : bytes ≤ 1000)
    (h : ∀ g c' w', CellsIn w' (some ⟨g, 0, none⟩) (m * size) C → g < w'.heap.size → Below B w w' → wpList P ops Q rest (a.put o.dst (.slice (some ⟨g, 0, none⟩) m c')) w') : wpList P ops Q (o :: rest) a w :=
  wpList_plain hgd fun _ hK => wp_append_copy w s x t ho e i z size bytes ht hi hz hsize hby hzs hsz B hs hB p m c C hx hp hC hone hm hbytes fun q c' w' h2 h3 h4 => hK _ _ (h q c' w' h2 h3 h4)
end
/-- Bytes, ranges, sets as cells. -/
def byteC (f : Nat → Nat) (j : Nat) : Value := .int .u8 (f j : Int)
def rangeC (lo hi : Nat → Nat) (j : Nat) : Value := .int .u8 ((if j % 2 = 0 then lo (j / 2) else hi (j / 2) : Nat) : Int)
def setC (F : Nat → WSet) (j : Nat) : Value := .int .u64 (((F (j / 4)).w (j % 4)).toNat : Int)
theorem bytesIn_of {w : World} {p : Option Addr} {n : Nat} {f : Nat → Nat} (hf : ∀ j, j < n → f j < 256) (h : CellsIn w p (n * 1) (byteC f)) : BytesIn w p n f := fun j hj => by
  obtain ⟨b, off, e, h1, h2⟩ := h j (by omega)
  exact ⟨hf j hj, b, off, e, h1, h2⟩
theorem rangesIn_of {w : World} {p : Option Addr} {n : Nat} {lo hi : Nat → Nat} (hl : ∀ j, j < n → lo j < 256 ∧ hi j < 256) (h : CellsIn w p (n * 2) (rangeC lo hi)) : RangesIn w p n lo hi := fun j hj => by
  obtain ⟨b, off, e, h1, h2⟩ := h (j * 2) (by omega)
  obtain ⟨b', off', e', h1', h2'⟩ := h (j * 2 + 1) (by omega)
  rw [e] at e'
  injection e' with e'
  injection e' with e1 e2
  subst e1 e2
  have q1 : j * 2 % 2 = 0 := by omega
  have q2 : (j * 2 + 1) % 2 ≠ 0 := by omega
  have q3 : j * 2 / 2 = j := by omega
  have q4 : (j * 2 + 1) / 2 = j := by omega
  refine ⟨(hl j hj).1, (hl j hj).2, b, off, e, h1, ?_, ?_⟩
  · rw [h2]; simp only [rangeC, q1, q3, if_true]
  · rw [Nat.add_assoc, h2']; simp only [rangeC, q2, q4, if_false]
theorem setsIn_of {w : World} {p : Option Addr} {n : Nat} {F : Nat → WSet} (h : CellsIn w p (n * 4) (setC F)) : SetsIn w p n F := fun j hj => by
  obtain ⟨b, off, e, h1, h2⟩ := h (j * 4) (by omega)
  refine ⟨b, off, e, h1, fun i hi => ?_⟩
  obtain ⟨b', off', e', h1', h2'⟩ := h (j * 4 + i) (by omega)
  rw [e] at e'
  injection e' with e'
  injection e' with e1 e2
  subst e1 e2
  have q1 : (j * 4 + i) % 4 = i := by omega
  have q2 : (j * 4 + i) / 4 = j := by omega
  rw [Nat.add_assoc, h2']
  simp only [setC, q1, q2]
theorem run_bytes_string {w : World} {p : Option Addr} {m c : Nat} {f : Nat → Nat} (hp : p = none → m = 0 ∧ c = 0) (hf : ∀ j, j < m → f j < 256) (h : CellsIn w p (m * 1) (byteC f)) :
    (convert 31 9 (.slice p m c)).run Tryd.prog w = .ok (.string ⟨((List.range m).map fun j => UInt8.ofNat (f j)).toArray⟩) w := by
  cases p with
  | none =>
    obtain ⟨rfl, rfl⟩ := hp rfl
    rw [run_convert_bytes_string w 31 9 5 none 0 0 Tryd.underlying31 Tryd.underlying5 Tryd.underlying9]
    rfl
  | some a =>
    have hl : ((List.range m).map fun j => UInt8.ofNat (f j)).length = m := by simp
    have hr := run_convert_bytes_back (P := Tryd.prog) w 31 9 5 a c ((List.range m).map fun j => UInt8.ofNat (f j)) Tryd.underlying31 Tryd.underlying5 Tryd.underlying9 (fun j hj => by
      rw [hl] at hj
      obtain ⟨b, off, e, h1, h2⟩ := h j (by omega)
      injection e with e
      subst e
      have := hf j hj
      rw [Addr.add_lit, h2]
      simp [byteC]
      omega)
    rw [hl] at hr
    exact hr
end Go.Proofs.YtbpnhiejmkeclaaDoor
