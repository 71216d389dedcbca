/-
  The law text's made: segments made of numbers, for every list of numbers. No condition.
-/
import Derived.Test.YtkchhgpebleioaaDoorDLaw1
import Derived.Test.YtkchhgpebleioaaDoorKMod
namespace Go.Proofs.YtkchhgpebleioaaDoor
open Go.RowKit
def words : List (List UInt8) := [[97], [98], [97, 98], [46, 46, 46], [46, 97], [97, 46], [99, 32, 100], [101, 63]]
def wordAt (x : Int) : List UInt8 := words.getD (modI x 8).toNat []
/-- The segments that are made of the first eight of n numbers. -/
def madeL (n : Nat) (f : Nat → Int) : List (List UInt8) := (List.range (min n 8)).map fun j => wordAt (f j)
theorem words_good : ∀ y ∈ words, nameB y = true ∧ y.length ≤ 3 := by
  intro y hy
  simp only [words, List.mem_cons, List.not_mem_nil, or_false] at hy
  rcases hy with rfl | rfl | rfl | rfl | rfl | rfl | rfl | rfl <;> exact ⟨by decide +kernel, by decide⟩
theorem wordAt_mem (x : Int) : wordAt x ∈ words := by
  have h := modI_range x 8 (by decide)
  have h2 : (modI x 8).toNat < words.length := by simp [words]; omega
  unfold wordAt
  rw [List.getD_eq_getElem?_getD, List.getElem?_eq_getElem h2]
  exact List.getElem_mem h2
theorem made_names (n : Nat) (f : Nat → Int) : Names (madeL n f) := fun y hy => by
  obtain ⟨j, -, rfl⟩ := List.mem_map.1 hy
  exact (words_good _ (wordAt_mem _)).1
theorem made_short (n : Nat) (f : Nat → Int) : ∀ y ∈ madeL n f, y.length ≤ 3 := fun y hy => by
  obtain ⟨j, -, rfl⟩ := List.mem_map.1 hy
  exact (words_good _ (wordAt_mem _)).2
theorem made_len (n : Nat) (f : Nat → Int) : (madeL n f).length = min n 8 := by simp [madeL]
def part (k : Nat) (f : Nat → Int) : List (List UInt8) := (List.range k).map fun j => wordAt (f j)
theorem part_succ (k : Nat) (f : Nat → Int) : part (k + 1) f = part k f ++ [wordAt (f k)] := by
  unfold part
  rw [List.range_succ, List.map_append]
  rfl
theorem part_len (k : Nat) (f : Nat → Int) : (part k f).length = k := by simp [part]
set_option maxRecDepth 100000 in
set_option maxHeartbeats 8000000 in
theorem made_any (p : Option Addr) (n c : Nat) (f : Nat → Int) (w : World) (hC : CellsIn w p (n * 1) (intC f)) :
    Calls Tryd.prog 35 #[.slice p n c] w fun e w' => ∃ v, e = .returned v ∧ w'.ownsRow w.heap.size 9 1 v (madeL n f).length ((madeL n f).map strW) ∧ Below w.heap.size w w' := by
  obtain ⟨i0, hi, hz0, hz1, hz2⟩ := info_parts infoS4
  have HC : Hid (CellsIn w p (n * 1) (intC f)) := hC
  clear hC
  go_enter Tryd.func35, Tryd.ntmps35
  go_wp2_with fail
  go_loopw [3, 4] (fun o i wr => ∃ (L : List (List UInt8)), L.length ≤ n ∧ L.length ≤ 8 ∧ i = .int .i64 L.length ∧ Hid (L = part L.length f) ∧ wr.ownsRow w.heap.size 9 1 o L.length (L.map strW) ∧ Below w.heap.size w wr) (fun _ i _ => n - (intOf i).toNat)
  case atStart => exact ⟨[], Nat.zero_le _, Nat.zero_le _, rfl, Lib.hid rfl, World.ownsRow_nil _ _ _ _, Below.refl _ _⟩
  case round =>
  obtain ⟨L, hk, hk8, rfl, heq, hrow, hB⟩ := hrel
  obtain ⟨ov, oc, rfl⟩ := own_slice hrow
  by_cases hlt : L.length < n
  · have d1 : decide ((L.length : Int) < (n : Int)) = true := decide_eq_true (by omega)
    have hb2 : (L.length : Int) < (n : Int) := by omega
    by_cases h8 : L.length < 8
    · have d2 : decide ((L.length : Int) < 8) = true := decide_eq_true (by omega)
      have d2n : decide (L.length < 8) = true := decide_eq_true h8
      obtain ⟨b, off, rfl, hbl, hcell⟩ := HC.out L.length (by omega)
      have hcell := (hB.cell (p := ⟨b, off + L.length, none⟩) hbl).trans hcell
      unfold intC at hcell
      have hbr : b < wr.heap.size := Nat.lt_of_lt_of_le hbl hB.size
      have hps := part_succ L.length f
      obtain ⟨x, hx⟩ : ∃ x, f L.length = x := ⟨_, rfl⟩
      rw [hx] at hcell hps
      have hm := modI_range x 8 (by decide)
      obtain ⟨m, hmm⟩ : ∃ m : Nat, modI x 8 = (m : Int) := ⟨(modI x 8).toNat, by omega⟩
      have hm8 : m < 8 := by omega
      have hm8i : (m : Int) < 8 := by omega
      have HMM := Lib.hid hmm
      obtain ⟨y, hy⟩ : ∃ y, wordAt x = y := ⟨_, rfl⟩
      have hwy : words.getD m [] = y := by rw [← hy]; unfold wordAt; rw [hmm]; rfl
      rw [hy] at hps
      obtain ⟨W1, hW1⟩ : ∃ W1, wr.alloc (.cells #[.string ⟨#[97]⟩, .string ⟨#[98]⟩, .string ⟨#[97, 98]⟩, .string ⟨#[46, 46, 46]⟩, .string ⟨#[46, 97]⟩, .string ⟨#[97, 46]⟩, .string ⟨#[99, 32, 100]⟩, .string ⟨#[101, 63]⟩] 9) = W1 := ⟨_, rfl⟩
      have hlit : W1.cell? ⟨wr.heap.size, m, none⟩ = some (.string ⟨y.toArray⟩) := by
        obtain ⟨pp, cc, e1, e2⟩ := strs_lit wr 9 words
        obtain ⟨b3, o3, e3, -, e4⟩ := e2 m (by simpa [words] using hm8)
        injection e1 with e1
        subst e1
        injection e3 with e3
        injection e3 with e5 e6
        subst e5 e6
        rw [← hW1, ← hwy]
        have := e4
        unfold strC at this
        rw [Nat.zero_add] at this
        exact this
      have hcell2 : W1.cell? ⟨b, off + L.length, none⟩ = some (.int .i64 x) := by
        rw [← hW1]
        exact (World.cell?_of_block (Below.heap_alloc _ _ _ hbr)).trans hcell
      have hsz1 : W1.heap.size = wr.heap.size + 1 := by rw [← hW1]; simp
      have hB1 : Below w.heap.size w W1 := by rw [← hW1]; exact hB.alloc hB.size _
      have hrow1 : W1.ownsRow w.heap.size 9 1 (.slice ov L.length oc) L.length (L.map strW) := by rw [← hW1]; exact hrow.alloc _
      have hone : w.heap.size ≤ (W1.alloc (.cells #[.string ⟨y.toArray⟩] 9)).heap.size := by have := hB1.size; simp; omega
      have HS1 := Lib.hid hsz1
      have HB1 := Lib.hid hB1
      have HR1 := Lib.hid (hrow1.alloc (.cells #[.string ⟨y.toArray⟩] 9))
      have hnext : Hid (L ++ [y] = part (L.length + 1) f) := Lib.hid (by rw [hps, ← heq.out])
      have hMOD := Lib.hid (fun W => mod_any x 8 (by decide) (by decide) W)
      clear hx hmm hm hy hwy hsz1 hB1 hrow1 hps hcell heq hrow
      go_wp2_with fail
      refine (hMOD.out _).mono ?_
      rintro e w' ⟨rfl, rfl⟩
      rw [HMM.out]
      go_wp2_with (at_builtin; refine wpList_append_own _ rfl _ _ 26 rfl w.heap.size 9 i0 (.string ⟨#[]⟩) 1 16 Tryd.underlying26 hi hz0 hz1 hz2 rfl (by decide) _ _ _ rfl HR1.out ⟨W1.heap.size, 0, none⟩ 1 1 [strW y] rfl rfl (cell_one_new _ _ _) (by simp [Value.oneCell', strW]) (by unfold maxLen; omega) (by omega) hone ?_; intro v' w2 hown' hgrow _)
      go_roundw
      case rel =>
        refine ⟨L ++ [y], by simp; omega, by simp; omega, by rw [List.length_append]; go_num, Lib.hid (by rw [List.length_append]; exact hnext.out), ?_, below_grownR (HB1.out.alloc HB1.out.size _) hone hgrow (fun r hr => (HR1.out.lt r hr).1)⟩
        rw [List.map_append, List.length_append]
        exact hown'
      case measure => simp [intOf]; omega
    · have d2 : decide ((L.length : Int) < 8) = false := decide_eq_false (by omega)
      have d2n : decide (L.length < 8) = false := decide_eq_false h8
      have HE : Hid (madeL n f = L) := Lib.hid (by rw [heq.out]; unfold madeL part; rw [show min n 8 = L.length by omega])
      clear heq
      go_wp2_with fail
      go_ret
      rw [HE.out]
      exact ⟨_, rfl, hrow, hB⟩
  · have d1 : decide ((L.length : Int) < (n : Int)) = false := decide_eq_false (by omega)
    have HE : Hid (madeL n f = L) := Lib.hid (by rw [heq.out]; unfold madeL part; rw [show min n 8 = L.length by omega])
    clear heq
    go_wp2_with fail
    go_ret
    rw [HE.out]
    exact ⟨_, rfl, hrow, hB⟩
end Go.Proofs.YtkchhgpebleioaaDoor
