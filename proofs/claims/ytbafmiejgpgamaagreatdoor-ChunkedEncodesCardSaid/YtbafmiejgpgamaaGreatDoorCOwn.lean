/-
  A row of bytes of one's own that may bear the mark of a conversion: keeping it, reading it as a text, appending one byte.
-/
import Derived.Test.YtbafmiejgpgamaaGreatDoorCTok
import Derived.Deep.AppendSrc
import Derived.Maps.AppendAt
import Derived.Laws.IdiomStrings
namespace Go.Proofs.YtbafmiejgpgamaaGreatDoor
open Go.RowKit
/-- The value is a slice of the bytes L, in a row from base on. -/
def OwnB (W : World) (base : Nat) (v : Value) (L : List UInt8) : Prop :=
  ∃ (g cap : Nat) (cur : Array Value) (fz : Nat × Nat), v = .slice (some ⟨g, 0, none⟩) L.length cap ∧ base ≤ g ∧ W.heap[g]? = some (.cells cur 5 fz) ∧ (fz = (0, 0) ∨ cap ≤ fz.1) ∧ L.length ≤ cap ∧ cap ≤ maxLen ∧ cur.size = cap ∧ cur.toList.take L.length = L.map byteV
theorem OwnB.form {W : World} {base : Nat} {v : Value} {L : List UInt8} (h : OwnB W base v L) : ∃ p c, v = .slice p L.length c := by
  obtain ⟨g, cap, cur, fz, rfl, _⟩ := h
  exact ⟨_, _, rfl⟩
theorem OwnB.lt {W : World} {base : Nat} {v : Value} {L : List UInt8} (h : OwnB W base v L) : ∀ k, v.ownBlock = some k → base ≤ k ∧ k < W.heap.size := by
  obtain ⟨g, cap, cur, fz, rfl, hb, hg, _⟩ := h
  intro k hk
  simp [Value.ownBlock] at hk
  subst hk
  exact ⟨hb, lt_of_block hg⟩
theorem OwnB.kept {W W' : World} {row : Option Nat} {base : Nat} {v : Value} {L : List UInt8} (h : OwnB W base v L) (hg : W.grownBy W' row) (hne : v.ownBlock ≠ row) : OwnB W' base v L := by
  obtain ⟨g, cap, cur, fz, rfl, hb, hk, rest⟩ := h
  exact ⟨g, cap, cur, fz, rfl, hb, (hg.block g (lt_of_block hk) (by simpa [Value.ownBlock] using hne)).trans hk, rest⟩
theorem OwnB.alloc {W : World} {base : Nat} {v : Value} {L : List UInt8} (h : OwnB W base v L) (o : Obj) : OwnB (W.alloc o) base v L := by
  obtain ⟨g, cap, cur, fz, rfl, hb, hk, rest⟩ := h
  exact ⟨g, cap, cur, fz, rfl, hb, (Below.heap_alloc _ _ _ (lt_of_block hk)).trans hk, rest⟩
theorem OwnB.drew {W : World} {base : Nat} {v : Value} {L : List UInt8} (h : OwnB W base v L) : OwnB W.drew base v L := h
theorem OwnB.below {W W' : World} {base : Nat} {v : Value} {L : List UInt8} (h : OwnB W base v L) (hb : Below W.heap.size W W') : OwnB W' base v L := by
  obtain ⟨g, cap, cur, fz, rfl, hb', hk, rest⟩ := h
  exact ⟨g, cap, cur, fz, rfl, hb', (hb.block g (lt_of_block hk)).trans hk, rest⟩
theorem CBlk.not_own {u : TypeId} {W : World} {B : Nat} {cs : List Value} (h : CBlk u W B cs) (hte : u ≠ 5) {base : Nat} {v : Value} {L : List UInt8} (hr : OwnB W base v L) : some B ≠ v.ownBlock := by
  obtain ⟨g, cap, cur, fz, rfl, hb, hk, _⟩ := hr
  intro e'
  obtain rfl : B = g := by simpa [Value.ownBlock] using e'
  have := (show W.heap[B]? = _ from h).symm.trans hk
  simp at this
  exact hte this.2.1
theorem body_text {W : World} {base : Nat} {v : Value} {L : List UInt8} (h : OwnB W base v L) : (convert 53 9 v).run Tryz.prog W = .ok (.string ⟨L.toArray⟩) W := by
  obtain ⟨g, cap, cur, fz, rfl, hb, hh, hf, h1, h2, h3, h4⟩ := h
  refine run_convert_bytes_back (P := Tryz.prog) W 53 9 5 ⟨g, 0, none⟩ cap L Tryz.underlying53 Tryz.underlying5 Tryz.underlying9 (fun j hj => ?_)
  rw [Addr.add_lit, Nat.zero_add, cell_of_row W g j cur _ _ hh]
  have e1 : (cur.toList.take L.length)[j]? = (L.map byteV)[j]? := by rw [h4]
  rw [List.getElem?_take_of_lt hj] at e1
  rw [← Array.getElem?_toList, e1]
  simp [byteV, hj]
theorem heap_setCell_at {W : World} {g : Nat} {cur : Array Value} {t : TypeId} {fz : Nat × Nat} (h : W.heap[g]? = some (.cells cur t fz)) (j : Nat) (x : Value) : (W.setCell ⟨g, j, none⟩ x).heap[g]? = some (.cells (cur.setIfInBounds j x) t fz) := by
  have hlt := lt_of_block h
  have h' : W.heap[g] = .cells cur t fz := by simpa [Array.getElem?_eq_getElem hlt] using h
  show (W.heap.modify g _)[g]? = _
  rw [Array.getElem?_eq_getElem (by simpa using hlt), Array.getElem_modify_self, h']
  rfl
theorem take_set {l : List Value} {n : Nat} (h : n < l.length) (x : Value) : (l.set n x).take (n + 1) = l.take n ++ [x] := by
  rw [List.take_succ_eq_append_getElem (by simpa using h), List.take_set_of_le (Nat.le_refl _), List.getElem_set_self]
theorem info5 : (Tryz.prog.info? 5).map (fun i => (i.zero, i.size, i.bytes)) = some (some (.int .u8 0), 1, 1) := by kernel_rfl
/-- append of one byte. -/
theorem run_append_byte {W : World} {base : Nat} {v : Value} {L : List UInt8} (h : OwnB W base v L) (hz : base ≤ W.heap.size) (hL : L.length < 100000) (ty : TypeId) (b : UInt8) (ad : Addr) (c : Nat) (hb : W.cell? ad = some (byteV b)) (hsp : ad.spot = none) :
    ∃ v' W', (Builtin.append_ #[53, 53] ty #[v, .slice (some ad) 1 c]).run Tryz.prog W = .ok v' W' ∧ OwnB W' base v' (L ++ [b]) ∧ W.grownBy W' v.ownBlock := by
  obtain ⟨i, hi, hz0, hz1, hz2⟩ := info_parts info5
  obtain ⟨g, cap, cur, fz, rfl, hbg, hk, hf, h1, h2, h3, h4⟩ := h
  have hnews : ∀ j u, [byteV b][j]? = some u → W.cell? (ad.add j) = some u := fun j u hj => by
    match j with
    | 0 =>
      simp at hj
      subst hj
      rw [show ad.add 0 = ad by cases ad; simp at hsp; subst hsp; rfl]
      exact hb
    | j + 1 => simp at hj
  have hs := Src.ofSlice (P := Tryz.prog) W (size := i.size) (tx := 53) Tryz.underlying53 ad 1 c [byteV b] (by rw [hz1]; rfl) hnews (by simp [Value.oneCell', byteV])
  by_cases hroom : L.length + 1 ≤ cap
  · have hr := run_append_room_src (P := Tryz.prog) W 53 53 ty 5 i Tryz.underlying53 hi g 0 L.length cap _ 1 [byteV b] hs hroom
      (fun j hj => by
        obtain rfl : j = 0 := by simpa using hj
        rw [hz1, cell_of_row W g _ cur _ _ hk, Array.getElem?_eq_getElem (by omega)]; rfl)
      (fun j hj => by
        obtain rfl : j = 0 := by simpa using hj
        rw [hz1]
        unfold World.frozen?
        simp only [hk]
        rcases hf with rfl | hf
        · simp
        · simp; intro h5; omega)
    rw [hz1] at hr
    refine ⟨_, _, hr, ?_, ?_⟩
    · refine ⟨g, cap, cur.setIfInBounds (0 + L.length * 1) (byteV b), fz, by simp, hbg, heap_setCell_at hk _ _, hf, by simpa using hroom, h2, by simpa using h3, ?_⟩
      rw [Array.toList_setIfInBounds, List.length_append, List.length_singleton, Nat.zero_add, Nat.mul_one, take_set (by simp; omega), h4, List.map_append]
      rfl
    · exact ⟨rfl, rfl, rfl, by simp [World.setCells], fun k hk' hne => Below.heap_setCell _ _ _ _ (fun e => hne (by simp [Value.ownBlock]; exact e))⟩
  · have hold : (Builtin.firstCells i.size L.length (.slice (some ⟨g, 0, none⟩) L.length cap)).run Tryz.prog W.drew = .ok (L.map byteV).toArray W.drew :=
      run_firstCells_some W.drew i.size L.length ⟨g, 0, none⟩ L.length cap (L.map byteV) (by rw [hz1]; simp) (fun j u hj => by
        rw [Addr.add_lit, Nat.zero_add]
        rw [show W.drew.cell? ⟨g, j, none⟩ = W.cell? ⟨g, j, none⟩ from rfl, cell_of_row W g j cur _ _ hk]
        have hjl : j < L.length := by
          have := (List.getElem?_eq_some_iff.1 hj).1
          simpa using this
        rw [← h4, List.getElem?_take_of_lt hjl] at hj
        rw [← Array.getElem?_toList, hj])
    have hcapL : cap = L.length := by omega
    have hfit : Builtin.nextslicecap (L.length + 1) cap * i.bytes ≤ 281474976710656 := growslice_fits (by omega) (by rw [hz2]; omega)
    have hr := run_append_grow_src (P := Tryz.prog) W 53 53 ty 5 i (.int .u8 0) Tryz.underlying53 hi hz0 (some ⟨g, 0, none⟩) L.length cap (L.map byteV) hold _ 1 [byteV b] hs (by omega) (by omega) hfit
    have hge := grownCap_ge W (L.length + 1) cap 5
    have hmx := grownCap_le_maxLen W (L.length + 1) cap 5 (by unfold maxLen; omega)
    refine ⟨_, _, hr, ?_, ⟨rfl, rfl, rfl, by simp, fun k hk' _ => Below.heap_alloc W.drew _ _ hk'⟩⟩
    refine ⟨W.heap.size, _, _, (0, 0), by simp, hz, heap_alloc_new W.drew _, .inl rfl, by simpa using hge, hmx, ?_, ?_⟩
    · simp only [Array.size_append, List.size_toArray, size_zeroCells, List.length_append, List.length_map, List.length_singleton]
      simp [Value.cells]
      omega
    · simp only [Array.toList_append, List.length_append, List.length_singleton]
      rw [List.take_left' (by simp)]
      simp
theorem wpList_append_byte {W : World} {ops : Array Oper} {rest : List Oper} {o : Oper} {a : Act} {Q : Exit → Act → World → Prop} (hgd : o.guard = none) (s x : Operand)
    (ho : o.op = .call { callee := .builtin .append, args := #[s, x], argTypes := #[53, 53] })
    {base : Nat} {v : Value} {L : List UInt8} (hs : a.eval s = v) (h : OwnB W base v L) (hz : base ≤ W.heap.size) (hL : L.length < 100000) (b : UInt8) (ad : Addr) (c : Nat) (hx : a.eval x = .slice (some ad) 1 c) (hb : W.cell? ad = some (byteV b)) (hsp : ad.spot = none)
    (hn : ∀ v' w', OwnB w' base v' (L ++ [b]) → W.grownBy w' v.ownBlock → wpList Tryz.prog ops Q rest (a.put o.dst v') w') : wpList Tryz.prog ops Q (o :: rest) a W :=
  wpList_plain hgd fun K hK => by
    obtain ⟨v', w', hr, h2, h3⟩ := run_append_byte h hz hL o.type b ad c hb hsp
    unfold Oper.wp execOp
    simp only [ho, resolve, invoke, builtin, Sem.run_bind, Sem.run_pure, Result.andThen_ok, List.map_toArray, List.map_cons, List.map_nil, hs, hx, hr]
    exact hK _ _ (hn v' w' h2 h3)
end Go.Proofs.YtbafmiejgpgamaaGreatDoor
