/-
  Slices of bytes, of ranges and of sets as a law's arguments: what their cells hold, and that they read behind the call as before. No condition.
-/
import Derived.Test.YtbpnhiejmkeclaaDoorArgs
import Derived.Test.YtbpnhiejmkeclaaDoorCells
import Derived.Deep.Slices
namespace Go.Proofs.YtbpnhiejmkeclaaDoor
open Go.ChangeShapes Go.WideShapes Go.ChangeAt Go.RowKit Go.Deep
theorem laidOut : laidOutB Tryd.prog = true := by kernel_rfl
theorem cellsR : Tryd.prog.cellsOf 42 = 2 := by kernel_rfl
theorem cellsIn_of_open {W : World} {a : Addr} {len k : Nat} (hk : 0 < k) (G : Nat → Nat → Value) (h : ∀ i, i < len → ∃ cs', W.cells? 0 (a.add (i * k)) k = some cs' ∧ ∀ r, r < k → cs'[r]? = some (G i r)) : CellsIn W (some a) (len * k) (fun j => G (j / k) (j % k)) := by
  have hat : ∀ i, i < len → ∀ r, r < k → W.cell? ((a.add (i * k)).add r) = some (G i r) := fun i hi r hr => by
    obtain ⟨cs', h1, h2⟩ := h i hi
    rw [(World.cells?_some h1).2.2 r hr, h2 r hr]
  intro j hj
  have hlen : 0 < len := by
    rcases Nat.eq_zero_or_pos len with e | e
    · rw [e, Nat.zero_mul] at hj; omega
    · exact e
  obtain ⟨ab, ao, spot⟩ := a
  have hspot : spot = none := by simpa [Addr.add] using World.cell?_spot (hat 0 hlen 0 hk)
  subst hspot
  have hi : j / k < len := Nat.div_lt_of_lt_mul (by rw [Nat.mul_comm]; exact hj)
  have h1 := hat (j / k) hi (j % k) (Nat.mod_lt _ hk)
  rw [Addr.add_lit, Addr.add_lit, Nat.add_assoc, Nat.mul_comm, Nat.div_add_mod] at h1
  exact ⟨ab, ao, rfl, World.block_lt_of_cell? W _ h1, h1⟩
section
variable {H : Type} {enc : TypeId × Value → H} {W : World} {base : Nat}
theorem u8_of {n : Int} (h : (Lit.int .u8 n).wf = true) : ∃ m : Nat, n = (m : Int) ∧ m < 256 := by
  simp [Lit.wf, IntKind.min, IntKind.max, IntKind.bits, IntKind.signed] at h
  exact ⟨n.toNat, by omega, by omega⟩
theorem open_sliceOf {t e : TypeId} {k : Nat} (ht : Tryd.prog.underlying t = some (.slice e)) (hce : Tryd.prog.cellsOf e = k) {v : Value} {d : DataW H} {ps : List MemPlace} (hval : Value.okWide Tryd.prog W .any base t v) (hd : DataW.Trod enc Tryd.prog W 0 (fun _ => true) true t v d ps) :
    ∃ p n c, v = .slice p n c ∧ (p = none → n = 0 ∧ c = 0) ∧ ∀ i, i < n → ∃ a m cs' y, p = some a ∧ W.cells? 0 (a.add (i * k)) k = some cs' ∧ DataW.trod enc Tryd.prog W 0 (fun _ => true) true m e cs' = some y := by
  obtain ⟨a1, len, cap, rfl⟩ := okWide_slice ht hval
  obtain ⟨fuel, hf⟩ := hd
  rcases open_slice ht hf with ⟨hcs, hx⟩ | ⟨a, len', cap', m, n, D, Pl, hcs, _, hl, hm, hmm, hx, hall⟩
  · simp [Value.cells] at hcs
    obtain ⟨rfl, rfl, rfl⟩ := hcs
    exact ⟨none, 0, 0, rfl, fun _ => ⟨rfl, rfl⟩, fun i hi => by omega⟩
  · simp [Value.cells] at hcs
    obtain ⟨rfl, rfl, rfl⟩ := hcs
    refine ⟨some a, len, cap, rfl, (fun e => by cases e), fun i hi => ?_⟩
    simp only [if_true] at hmm
    obtain ⟨cs', h1, h2⟩ := hall i (by omega)
    rw [hce] at h1
    exact ⟨a, n, cs', _, rfl, h1, h2⟩
theorem open_bytes {v : Value} {d : DataW H} {ps : List MemPlace} (hval : Value.okWide Tryd.prog W .any base 31 v) (hd : DataW.Trod enc Tryd.prog W 0 (fun _ => true) true 31 v d ps) :
    ∃ p n c f, v = .slice p n c ∧ (p = none → n = 0 ∧ c = 0) ∧ (∀ j, j < n → f j < 256) ∧ CellsIn W p (n * 1) (byteC f) := by
  obtain ⟨p, n, c, rfl, hp, hall⟩ := open_sliceOf Tryd.underlying31 cellsB hval hd
  obtain ⟨f, hf⟩ := choose_lt (α := Nat) (p := fun i m => m < 256 ∧ ∃ a, p = some a ∧ W.cells? 0 (a.add (i * 1)) 1 = some [.int .u8 (m : Int)]) (fun i hi => by
    obtain ⟨a, m, cs', y, e, h1, h2⟩ := hall i hi
    obtain ⟨z, rfl, _, hw⟩ := DataW.trod_int Tryd.underlying5 h2
    obtain ⟨x, rfl, hx⟩ := u8_of hw
    exact ⟨x, hx, a, e, h1⟩)
  refine ⟨p, n, c, f, rfl, hp, fun j hj => (hf j hj).1, ?_⟩
  cases p with
  | none => obtain ⟨rfl, rfl⟩ := hp rfl; exact fun j hj => by simp at hj
  | some a =>
    have h := cellsIn_of_open (a := a) (len := n) (k := 1) (by omega) (fun i _ => .int .u8 (f i : Int)) (fun i hi => by
      obtain ⟨_, a', e, h1⟩ := hf i hi
      injection e with e
      subst e
      exact ⟨_, h1, fun r hr => by obtain rfl : r = 0 := by omega
                                   rfl⟩)
    intro j hj
    obtain ⟨b, off, e, h1, h2⟩ := h j hj
    refine ⟨b, off, e, h1, ?_⟩
    rw [h2]
    show some (Value.int .u8 ((f (j / 1) : Nat) : Int)) = some (.int .u8 ((f j : Nat) : Int))
    rw [Nat.div_one]
theorem open_ranges {v : Value} {d : DataW H} {ps : List MemPlace} (hval : Value.okWide Tryd.prog W .any base 35 v) (hd : DataW.Trod enc Tryd.prog W 0 (fun _ => true) true 35 v d ps) :
    ∃ p n c lo hi, v = .slice p n c ∧ (p = none → n = 0 ∧ c = 0) ∧ (∀ j, j < n → lo j < 256 ∧ hi j < 256) ∧ CellsIn W p (n * 2) (rangeC lo hi) := by
  obtain ⟨p, n, c, rfl, hp, hall⟩ := open_sliceOf Tryd.underlying35 cellsR hval hd
  obtain ⟨f, hf⟩ := choose_lt (α := Nat × Nat) (p := fun i m => (m.1 < 256 ∧ m.2 < 256) ∧ ∃ a, p = some a ∧ W.cells? 0 (a.add (i * 2)) 2 = some [.int .u8 (m.1 : Int), .int .u8 (m.2 : Int)]) (fun i hi => by
    obtain ⟨a, m, cs', y, e, h1, h2⟩ := hall i hi
    obtain ⟨y0, y1, m', _, hl, t0, t1⟩ := trod_struct2 Tryd.underlying42 h2
    rw [cellsR] at hl
    obtain ⟨c0, c1, rfl⟩ : ∃ c0 c1, cs' = [c0, c1] := by
      match cs', hl with
      | [c0, c1], _ => exact ⟨c0, c1, rfl⟩
    obtain ⟨z0, e0, _, w0⟩ := DataW.trod_int Tryd.underlying5 t0
    obtain ⟨z1, e1, _, w1⟩ := DataW.trod_int Tryd.underlying5 t1
    simp [cellsB] at e0 e1
    subst e0 e1
    obtain ⟨x0, rfl, hx0⟩ := u8_of w0
    obtain ⟨x1, rfl, hx1⟩ := u8_of w1
    exact ⟨(x0, x1), ⟨hx0, hx1⟩, a, e, h1⟩)
  refine ⟨p, n, c, fun i => (f i).1, fun i => (f i).2, rfl, hp, fun j hj => (hf j hj).1, ?_⟩
  cases p with
  | none => obtain ⟨rfl, rfl⟩ := hp rfl; exact fun j hj => by simp at hj
  | some a =>
    exact cellsIn_of_open (a := a) (len := n) (k := 2) (by omega) (fun i r => .int .u8 ((if r = 0 then (f i).1 else (f i).2 : Nat) : Int)) (fun i hi => by
      obtain ⟨_, a', e, h1⟩ := hf i hi
      injection e with e
      subst e
      exact ⟨_, h1, fun r hr => by
        match r, hr with
        | 0, _ => rfl
        | 1, _ => rfl⟩)
theorem open_sets {v : Value} {d : DataW H} {ps : List MemPlace} (hval : Value.okWide Tryd.prog W .any base 36 v) (hd : DataW.Trod enc Tryd.prog W 0 (fun _ => true) true 36 v d ps) :
    ∃ p n c F, v = .slice p n c ∧ (p = none → n = 0 ∧ c = 0) ∧ CellsIn W p (n * 4) (setC F) := by
  obtain ⟨p, n, c, rfl, hp, hall⟩ := open_sliceOf Tryd.underlying36 cellsSet hval hd
  obtain ⟨F, hF⟩ := @choose_lt WSet ⟨.empty⟩ n ( fun i s => ∃ a, p = some a ∧ W.cells? 0 (a.add (i * 4)) 4 = some [.int .u64 (s.a.toNat : Int), .int .u64 (s.b.toNat : Int), .int .u64 (s.c.toNat : Int), .int .u64 (s.d.toNat : Int)]) (fun i hi => by
    obtain ⟨a, m, cs', y, e, h1, h2⟩ := hall i hi
    have hl := (World.cells?_some h1).2.1
    obtain ⟨c0, c1, c2, c3, rfl⟩ : ∃ c0 c1 c2 c3, cs' = [c0, c1, c2, c3] := by
      match cs', hl with
      | [c0, c1, c2, c3], _ => exact ⟨c0, c1, c2, c3, rfl⟩
    obtain ⟨y0, y1, y2, y3, m', _, t0, t1, t2, t3⟩ := trod_array4 Tryd.underlying24 cellsW h2
    obtain ⟨z0, e0, _, g0⟩ := DataW.trod_int Tryd.underlying22 t0
    obtain ⟨z1, e1, _, g1⟩ := DataW.trod_int Tryd.underlying22 t1
    obtain ⟨z2, e2, _, g2⟩ := DataW.trod_int Tryd.underlying22 t2
    obtain ⟨z3, e3, _, g3⟩ := DataW.trod_int Tryd.underlying22 t3
    obtain ⟨x0, rfl⟩ := word_of g0
    obtain ⟨x1, rfl⟩ := word_of g1
    obtain ⟨x2, rfl⟩ := word_of g2
    obtain ⟨x3, rfl⟩ := word_of g3
    simp only [List.cons.injEq, and_true] at e0 e1 e2 e3
    subst e0 e1 e2 e3
    exact ⟨⟨x0, x1, x2, x3⟩, a, e, h1⟩)
  refine ⟨p, n, c, F, rfl, hp, ?_⟩
  cases p with
  | none => obtain ⟨rfl, rfl⟩ := hp rfl; exact fun j hj => by simp at hj
  | some a =>
    exact cellsIn_of_open (a := a) (len := n) (k := 4) (by omega) (fun i r => .int .u64 (((F i).w r).toNat : Int)) (fun i hi => by
      obtain ⟨a', e, h1⟩ := hF i hi
      injection e with e
      subst e
      exact ⟨_, h1, fun r hr => by
        match r, hr with
        | 0, _ => rfl
        | 1, _ => rfl
        | 2, _ => rfl
        | 3, _ => rfl⟩)
/-- An argument reads behind the call as before. -/
theorem stays {t : TypeId} (hr : Tryd.prog.readableRec t = true) (hrow : t < Tryd.prog.types.size) {W' : World} {sp : Nat → Bool} {v : Value} {d : DataW H} {ps : List MemPlace} (h : DataW.Trod enc Tryd.prog W 0 (fun _ => true) true t v d ps) (hb : Below W.heap.size W W') (hlt : ∀ x ∈ ps, x.block < W.heap.size) (hs : ∀ x ∈ ps, sp x.block = true) : DataW.Trod enc Tryd.prog W' 0 sp true t v d ps :=
  WideElems.Trod_stays laidOut hr hrow h (fun x hx => hb.same (hlt x hx)) hs
end
end Go.Proofs.YtbpnhiejmkeclaaDoor
