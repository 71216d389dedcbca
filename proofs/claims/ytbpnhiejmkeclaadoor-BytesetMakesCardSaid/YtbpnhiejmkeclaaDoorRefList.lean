/-
  The reference's List, Count and Next for all arguments: they return what the program's functions return.
-/
import Derived.Test.YtbpnhiejmkeclaaDoorRefOnes
namespace Go.Proofs.YtbpnhiejmkeclaaDoor
open Go.RowKit Go.Shelf
attribute [local go_sem] Oper.semAt_some w_0 w_1 w_2 w_3
theorem upto_more (s : WSet) (n : Nat) : upto s 0 (n + 1) = upto s 0 n ++ (if s.has n then [n] else []) := by
  cases h : s.has n
  · rw [upto_none s 0 n 1 (fun j h1 h2 => by rw [show j = n by omega, h]; simp)]
    simp
  · rw [upto_snoc s 0 n (by simp [h])]
    simp
theorem below_grown {n : Nat} {w W W' : World} {row : Option Nat} (hB : Below n w W) (hn : n ≤ W.heap.size) (hg : W.grownBy W' row) (hr : ∀ r, row = some r → n ≤ r) : Below n w W' :=
  hB.trans ⟨hg.os, hg.tape, hg.output, hg.size, fun k hk => hg.block k (Nat.lt_of_lt_of_le hk hn) (fun e => by have := hr k e.symm; omega)⟩
theorem own_ge {W : World} {base : Nat} {e : TypeId} {size n : Nat} {v : Value} {xs : List Value} (h : W.ownsRow base e size v n xs) (m : Nat) (hm : m ≤ base) : ∀ r, v.ownBlock = some r → m ≤ r := fun r hr => Nat.le_trans hm (h.lt r hr).1
theorem own_below {W W' : World} {base : Nat} {e : TypeId} {size n : Nat} {v : Value} {xs : List Value} (h : W.ownsRow base e size v n xs) (hb : Below W.heap.size W W') : W'.ownsRow base e size v n xs := h.kept (belowGrown hb) (Decidable.em _)
set_option maxHeartbeats 2000000 in
theorem refList_any (a b c d : BitVec 64) (w : World) :
    Calls Tryd.prog 21 #[.agg #[.int .u64 a.toNat, .int .u64 b.toNat, .int .u64 c.toNat, .int .u64 d.toNat]] w fun e w' =>
      ∃ v, e = .returned v ∧ w'.ownsRow w.heap.size 5 1 v (upto ⟨a, b, c, d⟩ 0 256).length ((upto ⟨a, b, c, d⟩ 0 256).map enc8) ∧ Below w.heap.size w w' := by
  obtain ⟨i0, hi, hz0, hz1, hz2⟩ := info_parts info5
  go_enter Tryd.func21, Tryd.ntmps21
  go_wp2_with fail
  go_loopw [3, 4] (fun v i wr => ∃ k : Nat, k ≤ 256 ∧ i = .int .i64 k ∧ wr.ownsRow (w.heap.size + 1) 5 1 v (upto ⟨a, b, c, d⟩ 0 k).length ((upto ⟨a, b, c, d⟩ 0 k).map enc8) ∧ Blk wr w.heap.size ⟨a, b, c, d⟩ ∧ Below w.heap.size w wr ∧ w.heap.size < wr.heap.size)
    (fun v i _ => 256 - (intOf i).toNat)
  case atStart =>
    exact ⟨0, by omega, rfl, World.ownsRow_nil _ _ _ _, Blk.new w ⟨a, b, c, d⟩, by go_grown, by simp⟩
  case round =>
    obtain ⟨k, hk, rfl, hrow, a0, hB, hlt0⟩ := hrel
    by_cases hlt : k < 256
    · have h1 : decide ((k : Int) < 256) = true := decide_eq_true (by omega)
      have hw8 : IntKind.u8.wrap (k : Int) = (k : Int) := by rw [IntKind.wrap_u8']; omega
      have hL := upto_length ⟨a, b, c, d⟩ 0 k
      have hm := upto_more ⟨a, b, c, d⟩ k
      obtain ⟨c0, c1, c2, c3⟩ := a0.cells
      go_wp2_with fail
      refine (refHas_any a b c d k hlt _).mono ?_
      rintro x w3 ⟨rfl, hb⟩
      have a0 := a0.below hb a0.lt
      have hrow := own_below hrow hb
      have hz := hb.size
      have hB := hB.trans (hb.mono hB.size)
      clear hb c0 c1 c2 c3
      cases hh : (WSet.mk a b c d).has k
      · rw [hh] at hm
        have hm := Lib.hid hm
        go_wp2_with fail
        go_roundw
        case rel =>
          refine ⟨k + 1, by omega, by go_num, ?_, a0, hB, by omega⟩
          rw [hm.out]
          simpa using hrow
        case measure => simp [intOf]; omega
      · rw [hh] at hm
        have hm := Lib.hid hm
        go_wp2_with (at_builtin; refine wpList_append_own _ rfl _ _ 31 rfl (w.heap.size + 1) 5 i0 (.int .u8 0) 1 1 Tryd.underlying31 hi hz0 hz1 hz2 rfl (by decide) _ _ _ rfl (hrow.alloc _) ⟨w3.heap.size, 0, none⟩ 1 1 [.int .u8 k] rfl rfl (cell_one_new _ _ _) (by simp [Value.oneCell']) (by unfold maxLen; omega) (by omega) (by simp; omega) ?_; intro v' w1 hown' hgrow _)
        go_roundw
        case rel =>
          have hz1 := hgrow.size
          simp only [World.size_alloc] at hz1
          refine ⟨k + 1, by omega, by go_num, ?_, (a0.alloc _).kept hgrow (a0.not_row (by decide) hrow), below_grown (hB.alloc hB.size _) (by simp; omega) hgrow (own_ge hrow _ (by omega)), by omega⟩
          rw [hm.out]
          have hk8 : (k : Int) % 256 = (k : Int) := by omega
          simpa [enc8, hk8] using hown'
        case measure => simp [intOf]; omega
    · obtain rfl : k = 256 := by omega
      go_wp2_with fail
      go_ret
      exact ⟨_, rfl, ⟨hrow.1, hrow.2.imp id fun ⟨g, cap, cur, e1, e2, e3⟩ => ⟨g, cap, cur, e1, by omega, e3⟩⟩, hB⟩
set_option maxHeartbeats 1000000 in
theorem refCount_any (a b c d : BitVec 64) (w : World) :
    Calls Tryd.prog 17 #[.agg #[.int .u64 a.toNat, .int .u64 b.toNat, .int .u64 c.toNat, .int .u64 d.toNat]] w fun e w' => e = .returned (.int .i64 (countOf ⟨a, b, c, d⟩)) ∧ Below w.heap.size w w' := by
  have HC := Lib.hid (count_upto ⟨a, b, c, d⟩)
  go_enter Tryd.func17, Tryd.ntmps17
  have hB : Below w.heap.size w (w.alloc (.cells #[.int .u64 a.toNat, .int .u64 b.toNat, .int .u64 c.toNat, .int .u64 d.toNat] 24)) := by go_grown
  go_wp2_with fail
  refine (refList_any a b c d _).mono ?_
  rintro x w3 ⟨v, rfl, hrow, hb⟩
  obtain ⟨p, cap, rfl, -⟩ := owned_slice (fun x hx => upto_mem hx) hrow
  rw [HC.out]
  have hB := hB.trans (hb.mono hB.size)
  clear hb hrow
  go_wp2_with fail
  go_ret
  exact ⟨rfl, hB⟩
theorem nextOf_at {s : WSet} {f k : Nat} (h1 : f ≤ k) (h2 : k < 256) (h3 : s.has k = true) (h4 : ∀ j, f ≤ j → j < k → s.has j = false) : nextOf s f = (k, 0) := by
  rcases nextOf_cases s f with ⟨x, e, g1, g2, g3, g4⟩ | ⟨e, g4⟩
  · rw [e]
    by_cases q : x < k
    · rw [h4 x g1 q] at g3; cases g3
    · by_cases r : k < x
      · rw [g4 k h1 r] at h3; cases h3
      · rw [show x = k by omega]
  · rw [g4 k h1 h2] at h3; cases h3
theorem nextOf_end {s : WSet} {f : Nat} (h4 : ∀ j, f ≤ j → j < 256 → s.has j = false) : nextOf s f = (0, 6) := by
  rcases nextOf_cases s f with ⟨x, e, g1, g2, g3, g4⟩ | ⟨e, g4⟩
  · rw [h4 x g1 g2] at g3; cases g3
  · exact e
set_option maxHeartbeats 1000000 in
theorem refNext_any (a b c d : BitVec 64) (from_ : Int) (hf : from_ ≤ 9223372036854775807) (w : World) :
    Calls Tryd.prog 19 #[.agg #[.int .u64 a.toNat, .int .u64 b.toNat, .int .u64 c.toNat, .int .u64 d.toNat], .int .i64 from_] w fun e w' =>
      e = .returned (.tuple #[.int .i64 ((nextOf ⟨a, b, c, d⟩ from_.toNat).1 : Nat), .int .i64 ((nextOf ⟨a, b, c, d⟩ from_.toNat).2 : Nat)]) ∧ Below w.heap.size w w' := by
  obtain ⟨f, hfe⟩ : ∃ f, from_.toNat = f := ⟨_, rfl⟩
  have hmax : max 0 from_ = (f : Int) := by omega
  have hmax2 : max from_ 0 = (f : Int) := by omega
  rw [hfe]
  go_enter Tryd.func19, Tryd.ntmps19
  go_wp2_with fail
  go_loopw [6] (fun i wr => ∃ k : Nat, f ≤ k ∧ k ≤ f + 256 ∧ i = .int .i64 k ∧ Hid (∀ j, f ≤ j → j < k → (WSet.mk a b c d).has j = false) ∧ Blk wr w.heap.size ⟨a, b, c, d⟩ ∧ Below w.heap.size w wr)
    (fun i _ => 256 - (intOf i).toNat)
  case atStart =>
    exact ⟨f, Nat.le_refl _, by omega, rfl, Lib.hid (fun j h1 h2 => by omega), Blk.new w ⟨a, b, c, d⟩, by go_grown⟩
  case round =>
    obtain ⟨k, hk1, hk2, rfl, hall, a0, hB⟩ := hrel
    obtain ⟨c0, c1, c2, c3⟩ := a0.cells
    by_cases hlt : k < 256
    · have h1 : decide ((k : Int) < 256) = true := decide_eq_true (by omega)
      have hw8 : IntKind.u8.wrap (k : Int) = (k : Int) := by rw [IntKind.wrap_u8']; omega
      go_wp2_with fail
      refine (refHas_any a b c d k hlt _).mono ?_
      rintro x w3 ⟨rfl, hb⟩
      have a0 := a0.below hb a0.lt
      have hB := hB.trans (hb.mono hB.size)
      clear hb c0 c1 c2 c3
      cases hh : (WSet.mk a b c d).has k
      · go_wp2_with fail
        go_roundw
        case rel =>
          refine ⟨k + 1, by omega, by omega, by go_num, Lib.hid (fun j q1 q2 => ?_), a0, hB⟩
          by_cases q : j = k
          · subst q; exact hh
          · exact hall.out j q1 (by omega)
        case measure => simp [intOf]; omega
      · have hn := Lib.hid (nextOf_at hk1 hlt hh hall.out)
        go_wp2_with fail
        rw [hn.out]
        go_ret2
        exact ⟨rfl, hB⟩
    · have h1 : decide ((k : Int) < 256) = false := decide_eq_false (by omega)
      have hn := Lib.hid (nextOf_end (s := ⟨a, b, c, d⟩) (f := f) fun j q1 q2 => hall.out j q1 (by omega))
      go_wp2_with fail
      rw [hn.out]
      go_ret2
      exact ⟨rfl, hB⟩
end Go.Proofs.YtbpnhiejmkeclaaDoor
