/-
  Slices of ints as a law's arguments: what their cells hold, and that they read behind the call as before. No condition.
-/
import Derived.Test.YtheajdgdllobbaaPPost
import Derived.Deep.Slices
namespace Go.Proofs.Ytheajdgdllobbaa
open Go.ChangeShapes Go.WideShapes Go.ChangeAt Go.RowKit Go.Deep
/-- The first n cells behind p. -/
def CellsIn (w : World) (p : Option Addr) (n : Nat) (C : Nat → Value) : Prop := ∀ j, j < n → ∃ b off : Nat, p = some ⟨b, off, none⟩ ∧ b < w.heap.size ∧ w.cell? ⟨b, off + j, none⟩ = some (C j)
theorem CellsIn.below {n k : Nat} {w w' : World} {p : Option Addr} {C : Nat → Value} (h : CellsIn w p n C) (hb : Below k w w') (hk : w.heap.size ≤ k) : CellsIn w' p n C := fun j hj => by
  obtain ⟨b, off, e, h1, h2⟩ := h j hj
  exact ⟨b, off, e, Nat.lt_of_lt_of_le h1 hb.size, (hb.cell (p := ⟨b, off + j, none⟩) (Nat.lt_of_lt_of_le h1 hk)).trans h2⟩
theorem CellsIn.cell {w : World} {b off n : Nat} {C : Nat → Value} (h : CellsIn w (some ⟨b, off, none⟩) n C) (j : Nat) (hj : j < n) : w.cell? ⟨b, off + j, none⟩ = some (C j) := by
  obtain ⟨b', off', e, h1, h2⟩ := h j hj
  injection e with e
  injection e with e1 e2
  subst e1 e2
  exact h2
theorem cellsIn_of_open {W : World} {a : Addr} {len k : Nat} (hk : 0 < k) (G : Nat → Nat → Value) (h : ∀ i, i < len → ∃ cs', W.cells? 0 (a.add (i * k)) k = some cs' ∧ ∀ r, r < k → cs'[r]? = some (G i r)) : CellsIn W (some a) (len * k) (fun j => G (j / k) (j % k)) := by
  have hat : ∀ i, i < len → ∀ r, r < k → W.cell? ((a.add (i * k)).add r) = some (G i r) := fun i hi r hr => by
    obtain ⟨cs', h1, h2⟩ := h i hi
    rw [(World.cells?_some h1).2.2 r hr, h2 r hr]
  intro j hj
  have hlen : 0 < len := by
    rcases Nat.eq_zero_or_pos len with e | e
    · rw [e, Nat.zero_mul] at hj; omega
    · exact e
  obtain ⟨ab, ao, spot⟩ := a
  have hspot : spot = none := by simpa [Addr.add] using World.cell?_spot (hat 0 hlen 0 hk)
  subst hspot
  have hi : j / k < len := Nat.div_lt_of_lt_mul (by rw [Nat.mul_comm]; exact hj)
  have h1 := hat (j / k) hi (j % k) (Nat.mod_lt _ hk)
  rw [Addr.add_lit, Addr.add_lit, Nat.add_assoc, Nat.mul_comm, Nat.div_add_mod] at h1
  exact ⟨ab, ao, rfl, World.block_lt_of_cell? W _ h1, h1⟩
section
variable {H : Type} {enc : TypeId × Value → H} {W : World} {base : Nat}
theorem open_sliceOf {t e : TypeId} {k : Nat} (ht : Try.prog.underlying t = some (.slice e)) (hce : Try.prog.cellsOf e = k) {v : Value} {d : DataW H} {ps : List MemPlace} (hval : Value.okWide Try.prog W .any base t v) (hd : DataW.Trod enc Try.prog W 0 (fun _ => true) true t v d ps) :
    ∃ p n c, v = .slice p n c ∧ (p = none → n = 0 ∧ c = 0) ∧ ∀ i, i < n → ∃ a m cs' y, p = some a ∧ W.cells? 0 (a.add (i * k)) k = some cs' ∧ DataW.trod enc Try.prog W 0 (fun _ => true) true m e cs' = some y := by
  obtain ⟨a1, len, cap, rfl⟩ := okWide_slice ht hval
  obtain ⟨fuel, hf⟩ := hd
  rcases open_slice ht hf with ⟨hcs, hx⟩ | ⟨a, len', cap', m, n, D, Pl, hcs, _, hl, hm, hmm, hx, hall⟩
  · simp [Value.cells] at hcs
    obtain ⟨rfl, rfl, rfl⟩ := hcs
    exact ⟨none, 0, 0, rfl, fun _ => ⟨rfl, rfl⟩, fun i hi => by omega⟩
  · simp [Value.cells] at hcs
    obtain ⟨rfl, rfl, rfl⟩ := hcs
    refine ⟨some a, len, cap, rfl, (fun e => by cases e), fun i hi => ?_⟩
    simp only [if_true] at hmm
    obtain ⟨cs', h1, h2⟩ := hall i (by omega)
    rw [hce] at h1
    exact ⟨a, n, cs', _, rfl, h1, h2⟩
theorem cellsI : Try.prog.cellsOf 3 = 1 := by kernel_rfl
def intC (f : Nat → Int) (j : Nat) : Value := .int .i64 (f j)
theorem open_intsF {v : Value} {d : DataW H} {ps : List MemPlace} (hval : Value.okWide Try.prog W .any base 46 v) (hd : DataW.Trod enc Try.prog W 0 (fun _ => true) true 46 v d ps) :
    ∃ p n c f, v = .slice p n c ∧ (p = none → n = 0 ∧ c = 0) ∧ (∀ j, j < n → -9223372036854775808 ≤ f j ∧ f j ≤ 9223372036854775807) ∧ CellsIn W p (n * 1) (intC f) := by
  obtain ⟨p, n, c, rfl, hp, hall⟩ := open_sliceOf Try.underlying46 cellsI hval hd
  obtain ⟨f, hf⟩ := choose_lt (α := Int) (p := fun i m => (-9223372036854775808 ≤ m ∧ m ≤ 9223372036854775807) ∧ ∃ a, p = some a ∧ W.cells? 0 (a.add (i * 1)) 1 = some [.int .i64 m]) (fun i hi => by
    obtain ⟨a, m, cs', y, e, h1, h2⟩ := hall i hi
    obtain ⟨z, rfl, _, hw⟩ := DataW.trod_int Try.underlying3 h2
    refine ⟨z, ?_, a, e, h1⟩
    simp [Lit.wf, IntKind.min, IntKind.max, IntKind.bits, IntKind.signed] at hw
    omega)
  refine ⟨p, n, c, f, rfl, hp, fun j hj => (hf j hj).1, ?_⟩
  cases p with
  | none => obtain ⟨rfl, rfl⟩ := hp rfl; exact fun j hj => by simp at hj
  | some a =>
    have h := cellsIn_of_open (a := a) (len := n) (k := 1) (by omega) (fun i _ => .int .i64 (f i)) (fun i hi => by
      obtain ⟨_, a', e, h1⟩ := hf i hi
      injection e with e
      subst e
      exact ⟨_, h1, fun r hr => by obtain rfl : r = 0 := by omega
                                   rfl⟩)
    intro j hj
    obtain ⟨b, off, e, h1, h2⟩ := h j hj
    refine ⟨b, off, e, h1, ?_⟩
    rw [h2]
    show some (Value.int .i64 (f (j / 1))) = some (.int .i64 (f j))
    rw [Nat.div_one]
/-- An argument reads behind the call as before. -/
theorem stays {t : TypeId} (hr : Try.prog.readableRec t = true) (hrow : t < Try.prog.types.size) {W' : World} {sp : Nat → Bool} {v : Value} {d : DataW H} {ps : List MemPlace} (h : DataW.Trod enc Try.prog W 0 (fun _ => true) true t v d ps) (hb : Below W.heap.size W W') (hlt : ∀ x ∈ ps, x.block < W.heap.size) (hs : ∀ x ∈ ps, sp x.block = true) : DataW.Trod enc Try.prog W' 0 sp true t v d ps :=
  WideElems.Trod_stays laidOut hr hrow h (fun x hx => hb.same (hlt x hx)) hs
end
end Go.Proofs.Ytheajdgdllobbaa
