/-
  The set of the bytes of values: token.valueSet.
-/
import Derived.Test.YtbafmiejgpgamaaGreatDoorCAll
namespace Go.Proofs.YtbafmiejgpgamaaGreatDoor
open Go.RowKit
def prS : WSet := spanTo 33 (126 + 1 - 33)
def hiS : WSet := spanTo 128 (255 + 1 - 128)
/-- The blanks. -/
def blaF (j : Nat) : Nat := [32, 9].getD j 0
def blaS : WSet := addTo .empty blaF 2
theorem blaF_lt : ∀ j, j < 2 → blaF j < 256 := by decide
theorem bla_cell : ∀ j, j < 2 → (#[.int .u8 32, .int .u8 9] : Array Value)[j]? = some (.int .u8 (blaF j : Int)) := by
  intro j hj
  match j, hj with
  | 0, _ => rfl
  | 1, _ => rfl
theorem bla_of (m0 m1 m2 m3 : BitVec 64) (h : Hid (blaS = ⟨m0, m1, m2, m3⟩)) (W : World) (B : Nat) (fr : Nat × Nat) (hk : W.heap[B]? = some (.cells #[.int .u8 32, .int .u8 9] 5 fr)) :
    Calls Tryz.prog 112 #[.slice (some ⟨B, 0, none⟩) 2 2] W fun e w' => e = .returned (WSet.mk m0 m1 m2 m3).v ∧ Below W.heap.size W w' := by
  have hc := of_any B 0 2 2 blaF blaF_lt (by unfold maxLen; omega) W (lt_of_block hk) (fun j hj => by rw [Nat.zero_add, cell_of_row _ _ _ _ _ _ hk]; exact bla_cell j hj)
  have ht : addTo .empty blaF 2 = ⟨m0, m1, m2, m3⟩ := h.out
  rw [ht] at hc
  exact hc
/-- The bytes of values. -/
def valS : WSet := (prS.or hiS).or blaS
set_option maxHeartbeats 8000000 in
theorem valueSet_any (a b c d : BitVec 64) (HT : Hid (valS = ⟨a, b, c, d⟩)) (w : World) :
    Calls Tryz.prog 106 #[] w fun e w' => e = .returned (WSet.mk a b c d).v ∧ Below w.heap.size w w' := by
  obtain ⟨e0, e1, e2, e3, h1⟩ : ∃ a0 a1 a2 a3, Hid (prS = ⟨a0, a1, a2, a3⟩) := ⟨_, _, _, _, Lib.hid rfl⟩
  obtain ⟨i0, i1, i2, i3, h2⟩ : ∃ a0 a1 a2 a3, Hid (hiS = ⟨a0, a1, a2, a3⟩) := ⟨_, _, _, _, Lib.hid rfl⟩
  obtain ⟨m0, m1, m2, m3, h3⟩ : ∃ a0 a1 a2 a3, Hid (blaS = ⟨a0, a1, a2, a3⟩) := ⟨_, _, _, _, Lib.hid rfl⟩
  have HS1 : Hid (∀ W, Calls Tryz.prog 113 #[.int .u8 33, .int .u8 126] W fun e w' => e = .returned (WSet.mk e0 e1 e2 e3).v ∧ Below W.heap.size W w') := Lib.hid fun W => by
    have h := tspan_any 33 126 (by omega) (by omega) (by omega) W
    have ht : spanTo 33 (126 + 1 - 33) = ⟨e0, e1, e2, e3⟩ := h1.out
    rw [ht] at h
    exact h
  have HS2 : Hid (∀ W, Calls Tryz.prog 113 #[.int .u8 128, .int .u8 255] W fun e w' => e = .returned (WSet.mk i0 i1 i2 i3).v ∧ Below W.heap.size W w') := Lib.hid fun W => by
    have h := tspan_any 128 255 (by omega) (by omega) (by omega) W
    have ht : spanTo 128 (255 + 1 - 128) = ⟨i0, i1, i2, i3⟩ := h2.out
    rw [ht] at h
    exact h
  have HM : Hid (∀ (W : World) (B : Nat) (fr : Nat × Nat), W.heap[B]? = some (.cells #[.int .u8 32, .int .u8 9] 5 fr) → Calls Tryz.prog 112 #[.slice (some ⟨B, 0, none⟩) 2 2] W fun e w' => e = .returned (WSet.mk m0 m1 m2 m3).v ∧ Below W.heap.size W w') := Lib.hid fun W B fr hk => bla_of m0 m1 m2 m3 h3 W B fr hk
  have hU : ((WSet.mk e0 e1 e2 e3).or (WSet.mk i0 i1 i2 i3)).or (WSet.mk m0 m1 m2 m3) = ⟨a, b, c, d⟩ := by rw [← h1.out, ← h2.out, ← h3.out]; exact HT.out
  have HU := Lib.hid fun W => union3 _ _ _ _ _ _ _ _ _ _ _ _ a b c d (Lib.hid hU) W
  clear hU h1 h2 h3 HT
  go_enter Tryz.func106, Tryz.ntmps106
  go_upto_region 1 with fail
  have b0 := Blk.new0 w
  have hB2 := (Below.refl _ w).alloc (Nat.le_refl _) (.cells #[.int .u64 0, .int .u64 0, .int .u64 0, .int .u64 0] 111)
  obtain ⟨V, hV⟩ : ∃ V, w.alloc (.cells #[.int .u64 0, .int .u64 0, .int .u64 0, .int .u64 0] 111) = V := ⟨_, rfl⟩
  rw [hV] at b0 hB2 ⊢
  clear hV
  have lV := b0.lt
  have kc := fun (w : World) (C : Array Value) (n c : Nat) => Lib.run_convert_bytes_const (P := Tryz.prog) w 53 5 C n c Tryz.underlying53 Tryz.underlying5
  go_wp2_with fail
  refine (HS1.out _).mono ?_
  rintro e w5 ⟨rfl, hb5⟩
  have hV5 : Below V.heap.size V w5 := hb5
  go_wp2_with fail
  refine (HS2.out _).mono ?_
  rintro e w6 ⟨rfl, hb6⟩
  have hV6 : Below V.heap.size V w6 := hV5.trans (hb6.mono hV5.size)
  go_wp2_with fail
  refine (HM.out _ _ _ (heap_alloc_new _ _)).mono ?_
  rintro e w7 ⟨rfl, hb7⟩
  have hV7 : Below V.heap.size V w7 := (hV6.alloc hV6.size _).trans (hb7.mono (by have := hV6.size; simp; omega))
  go_wp2_with fail
  refine (HU.out _).mono ?_
  rintro e w8 ⟨rfl, hb8⟩
  have hV8 := hV7.trans (hb8.mono hV7.size)
  have bz := b0.below hV8 lV
  obtain ⟨d0, d1, d2, d3⟩ := bz.cells
  obtain ⟨f0, f1, f2, f3⟩ := bz.frees
  go_wp2_with fail
  exact bodyPost_ret ((bz.store4 a b c d).results rfl _ rfl) rfl ⟨rfl, Blk.below4 a b c d (hB2.trans (hV8.mono hB2.size)) (Nat.le_refl _)⟩
set_option maxRecDepth 100000 in
theorem valS_has : ∀ n, n < 256 → valS.has n = inN n := by decide +kernel
end Go.Proofs.YtbafmiejgpgamaaGreatDoor
