/-
  Slices as a law's arguments: what their cells hold, and that they read behind the call as before. No condition.
-/
import Derived.Test.YtjinedeelkdgiaaDoorHKPost
import Derived.Test.YtjinedeelkdgiaaDoorHStrs
import Derived.Deep.Slices
namespace Go.Proofs.YtjinedeelkdgiaaDoor
open Go.ChangeShapes Go.WideShapes Go.ChangeAt Go.RowKit Go.Deep
theorem cellsIn_of_open {W : World} {a : Addr} {len k : Nat} (hk : 0 < k) (G : Nat → Nat → Value) (h : ∀ i, i < len → ∃ cs', W.cells? 0 (a.add (i * k)) k = some cs' ∧ ∀ r, r < k → cs'[r]? = some (G i r)) : CellsIn W (some a) (len * k) (fun j => G (j / k) (j % k)) := by
  have hat : ∀ i, i < len → ∀ r, r < k → W.cell? ((a.add (i * k)).add r) = some (G i r) := fun i hi r hr => by
    obtain ⟨cs', h1, h2⟩ := h i hi
    rw [(World.cells?_some h1).2.2 r hr, h2 r hr]
  intro j hj
  have hlen : 0 < len := by
    rcases Nat.eq_zero_or_pos len with e | e
    · rw [e, Nat.zero_mul] at hj; omega
    · exact e
  obtain ⟨ab, ao, spot⟩ := a
  have hspot : spot = none := by simpa [Addr.add] using World.cell?_spot (hat 0 hlen 0 hk)
  subst hspot
  have hi : j / k < len := Nat.div_lt_of_lt_mul (by rw [Nat.mul_comm]; exact hj)
  have h1 := hat (j / k) hi (j % k) (Nat.mod_lt _ hk)
  rw [Addr.add_lit, Addr.add_lit, Nat.add_assoc, Nat.mul_comm, Nat.div_add_mod] at h1
  exact ⟨ab, ao, rfl, World.block_lt_of_cell? W _ h1, h1⟩
section
variable {H : Type} {enc : TypeId × Value → H} {W : World} {base : Nat}
set_option maxRecDepth 100000 in
theorem open_sliceOf {t e : TypeId} {k : Nat} (ht : Tryd.prog.underlying t = some (.slice e)) (hce : Tryd.prog.cellsOf e = k) {v : Value} {d : DataW H} {ps : List MemPlace} (hval : Value.okWide Tryd.prog W .any base t v) (hd : DataW.Trod enc Tryd.prog W 0 (fun _ => true) true t v d ps) :
    ∃ p n c, v = .slice p n c ∧ (p = none → n = 0 ∧ c = 0) ∧ ∀ i, i < n → ∃ a m cs' y, p = some a ∧ W.cells? 0 (a.add (i * k)) k = some cs' ∧ DataW.trod enc Tryd.prog W 0 (fun _ => true) true m e cs' = some y := by
  obtain ⟨a1, len, cap, rfl⟩ := okWide_slice ht hval
  obtain ⟨fuel, hf⟩ := hd
  rcases open_slice ht hf with ⟨hcs, hx⟩ | ⟨a, len', cap', m, n, D, Pl, hcs, _, hl, hm, hmm, hx, hall⟩
  · simp [Value.cells] at hcs
    obtain ⟨rfl, rfl, rfl⟩ := hcs
    exact ⟨none, 0, 0, rfl, fun _ => ⟨rfl, rfl⟩, fun i hi => by omega⟩
  · simp [Value.cells] at hcs
    obtain ⟨rfl, rfl, rfl⟩ := hcs
    refine ⟨some a, len, cap, rfl, (fun e => by cases e), fun i hi => ?_⟩
    simp only [if_true] at hmm
    obtain ⟨cs', h1, h2⟩ := hall i (by omega)
    rw [hce] at h1
    exact ⟨a, n, cs', _, rfl, h1, h2⟩
/-- An argument reads behind the call as before. -/
theorem stays {t : TypeId} (hr : Tryd.prog.readableRec t = true) (hrow : t < Tryd.prog.types.size) {W' : World} {sp : Nat → Bool} {v : Value} {d : DataW H} {ps : List MemPlace} (h : DataW.Trod enc Tryd.prog W 0 (fun _ => true) true t v d ps) (hb : Below W.heap.size W W') (hlt : ∀ x ∈ ps, x.block < W.heap.size) (hs : ∀ x ∈ ps, sp x.block = true) : DataW.Trod enc Tryd.prog W' 0 sp true t v d ps :=
  WideElems.Trod_stays laidOut hr hrow h (fun x hx => hb.same (hlt x hx)) hs
end
end Go.Proofs.YtjinedeelkdgiaaDoor
