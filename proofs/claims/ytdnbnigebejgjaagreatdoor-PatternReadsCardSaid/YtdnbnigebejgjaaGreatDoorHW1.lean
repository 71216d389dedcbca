/-
  The reference's Has, List, Count, Union (layer 1).
  The reference's in, letter: a byte as it is written.
-/
import Derived.Test.YtdnbnigebejgjaaGreatDoorHJRef1
import Derived.Test.YtdnbnigebejgjaaGreatDoorHTz
import Derived.Test.YtdnbnigebejgjaaGreatDoorHQ6
import Derived.IntWalk
import Derived.Test.YtdnbnigebejgjaaGreatDoorHJT6
namespace Go.Proofs.YtdnbnigebejgjaaGreatDoor
open Go.RowKit Go.Shelf
attribute [local go_sem] Oper.semAt_some w_0 w_1 w_2 w_3
set_option maxHeartbeats 400000 in
theorem refHas_any (a b c d : BitVec 64) (n : Nat) (hn : n < 256) (w : World) :
    Calls Tryz.prog 103 #[.agg #[.int .u64 a.toNat, .int .u64 b.toNat, .int .u64 c.toNat, .int .u64 d.toNat], .int .u8 (n : Int)] w fun e w' => e = .returned (.bool ((WSet.mk a b c d).has n)) ∧ Below w.heap.size w w' := by
  have hx := idx4 a b c d (n / 64) (by omega)
  go_enter Tryz.func103, Tryz.ntmps103
  go_wp2
  go_ret
  refine ⟨?_, by go_grown⟩
  simp [has_bit, WSet.has]
theorem upto_more (s : WSet) (n : Nat) : upto s 0 (n + 1) = upto s 0 n ++ (if s.has n then [n] else []) := by
  cases h : s.has n
  · rw [upto_none s 0 n 1 (fun j h1 h2 => by rw [show j = n by omega, h]; simp)]
    simp
  · rw [upto_snoc s 0 n (by simp [h])]
    simp
set_option maxHeartbeats 2000000 in
theorem refList_any (a b c d : BitVec 64) (w : World) :
    Calls Tryz.prog 85 #[.agg #[.int .u64 a.toNat, .int .u64 b.toNat, .int .u64 c.toNat, .int .u64 d.toNat]] w fun e w' =>
      ∃ v, e = .returned v ∧ w'.ownsRow w.heap.size 5 1 v (upto ⟨a, b, c, d⟩ 0 256).length ((upto ⟨a, b, c, d⟩ 0 256).map enc8) ∧ Below w.heap.size w w' := by
  obtain ⟨i0, hi, hz0, hz1, hz2⟩ := info_parts info5
  go_enter Tryz.func85, Tryz.ntmps85
  go_wp2_with fail
  go_loopw [3, 4] (fun v i wr => ∃ k : Nat, k ≤ 256 ∧ i = .int .i64 k ∧ wr.ownsRow (w.heap.size + 1) 5 1 v (upto ⟨a, b, c, d⟩ 0 k).length ((upto ⟨a, b, c, d⟩ 0 k).map enc8) ∧ Blk wr w.heap.size ⟨a, b, c, d⟩ ∧ Below w.heap.size w wr ∧ w.heap.size < wr.heap.size)
    (fun v i _ => 256 - (intOf i).toNat)
  case atStart =>
    exact ⟨0, by omega, rfl, World.ownsRow_nil _ _ _ _, Blk.new w ⟨a, b, c, d⟩, by go_grown, by simp⟩
  case round =>
    obtain ⟨k, hk, rfl, hrow, a0, hB, hlt0⟩ := hrel
    by_cases hlt : k < 256
    · have h1 : decide ((k : Int) < 256) = true := decide_eq_true (by omega)
      have hw8 : IntKind.u8.wrap (k : Int) = (k : Int) := by rw [IntKind.wrap_u8']; omega
      have hL := upto_length ⟨a, b, c, d⟩ 0 k
      have hm := upto_more ⟨a, b, c, d⟩ k
      obtain ⟨c0, c1, c2, c3⟩ := a0.cells
      go_wp2_with fail
      refine (refHas_any a b c d k hlt _).mono ?_
      rintro x w3 ⟨rfl, hb⟩
      have a0 := a0.below hb a0.lt
      have hrow := own_below hrow hb
      have hz := hb.size
      have hB := hB.trans (hb.mono hB.size)
      clear hb c0 c1 c2 c3
      cases hh : (WSet.mk a b c d).has k
      · rw [hh] at hm
        have hm := Lib.hid hm
        go_wp2_with fail
        go_roundw
        case rel =>
          refine ⟨k + 1, by omega, by go_num, ?_, a0, hB, by omega⟩
          rw [hm.out]
          simpa using hrow
        case measure => simp [intOf]; omega
      · rw [hh] at hm
        have hm := Lib.hid hm
        go_wp2_with (at_builtin; refine wpList_append_own _ rfl _ _ 103 rfl (w.heap.size + 1) 5 i0 (.int .u8 0) 1 1 Tryz.underlying103 hi hz0 hz1 hz2 rfl (by decide) _ _ _ rfl (hrow.alloc _) ⟨w3.heap.size, 0, none⟩ 1 1 [.int .u8 k] rfl rfl (cell_one_new _ _ _) (by simp [Value.oneCell']) (by unfold maxLen; omega) (by omega) (by simp; omega) ?_; intro v' w1 hown' hgrow _)
        go_roundw
        case rel =>
          have hz1 := hgrow.size
          simp only [World.size_alloc] at hz1
          refine ⟨k + 1, by omega, by go_num, ?_, (a0.alloc _).kept hgrow (a0.not_row (by decide) hrow), below_grown (hB.alloc hB.size _) (by simp; omega) hgrow (own_ge hrow _ (by omega)), by omega⟩
          rw [hm.out]
          have hk8 : (k : Int) % 256 = (k : Int) := by omega
          simpa [enc8, hk8] using hown'
        case measure => simp [intOf]; omega
    · obtain rfl : k = 256 := by omega
      go_wp2_with fail
      go_ret
      exact ⟨_, rfl, ⟨hrow.1, hrow.2.imp id fun ⟨g, cap, cur, e1, e2, e3⟩ => ⟨g, cap, cur, e1, by omega, e3⟩⟩, hB⟩
set_option maxHeartbeats 1000000 in
theorem refCount_any (a b c d : BitVec 64) (w : World) :
    Calls Tryz.prog 83 #[.agg #[.int .u64 a.toNat, .int .u64 b.toNat, .int .u64 c.toNat, .int .u64 d.toNat]] w fun e w' => e = .returned (.int .i64 ((upto ⟨a, b, c, d⟩ 0 256).length : Int)) ∧ Below w.heap.size w w' := by
  go_enter Tryz.func83, Tryz.ntmps83
  have hB : Below w.heap.size w (w.alloc (.cells #[.int .u64 a.toNat, .int .u64 b.toNat, .int .u64 c.toNat, .int .u64 d.toNat] 41)) := by go_grown
  go_wp2_with fail
  refine (refList_any a b c d _).mono ?_
  rintro x w3 ⟨v, rfl, hrow, hb⟩
  obtain ⟨p, cap, rfl, -⟩ := cells_of_own hrow (by simp)
  have hB := hB.trans (hb.mono hB.size)
  clear hb hrow
  go_wp2_with fail
  go_ret
  exact ⟨rfl, hB⟩
/-- The slice holds the sets f 0, .., f (len - 1). -/
def SetsIn (w : World) (p : Option Addr) (len : Nat) (f : Nat → WSet) : Prop := ∀ j, j < len → ∃ b off : Nat, p = some ⟨b, off, none⟩ ∧ b < w.heap.size ∧ ∀ i, i < 4 → w.cell? ⟨b, off + j * 4 + i, none⟩ = some (.int .u64 (((f j).w i).toNat : Int))
set_option maxHeartbeats 2000000 in
theorem refUnion_any (p : Option Addr) (len cap : Nat) (f : Nat → WSet) (hlen : len ≤ maxLen) (w : World) (hc : SetsIn w p len f) :
    Calls Tryz.prog 44 #[.slice p len cap] w fun e w' => e = .returned (orTo .empty f len).v ∧ Below w.heap.size w w' := by
  unfold maxLen at hlen
  have HC : Hid (SetsIn w p len f) := hc
  clear hc
  go_enter Tryz.func44, Tryz.ntmps44
  go_wp2_with fail
  obtain ⟨O, hO⟩ : ∃ O, w.heap.size + 1 = O := ⟨_, rfl⟩
  rw [hO]
  go_loopw [4] (fun i wr => ∃ k : Nat, k ≤ len ∧ i = .int .i64 k ∧ Blk wr w.heap.size .empty ∧ Blk wr O (orTo .empty f k) ∧ Below w.heap.size w wr)
    (fun i _ => len - (intOf i).toNat)
  case atStart =>
    refine ⟨0, Nat.zero_le _, rfl, (Blk.new0 w).alloc _, ?_, ?_⟩
    · have := Blk.new0 (w.alloc (.cells #[.int .u64 0, .int .u64 0, .int .u64 0, .int .u64 0] 41))
      rw [World.size_alloc, hO] at this
      exact this
    · go_grown
  case round =>
    obtain ⟨k, hk, rfl, h1, h2, hB⟩ := hrel
    by_cases hlt : k < len
    · obtain ⟨b, off, rfl, hbw, hcl⟩ := HC.out k hlt
      have e0 := (hB.cell (p := ⟨b, off + k * 4 + 0, none⟩) hbw).trans (hcl 0 (by omega))
      rw [Nat.add_zero] at e0
      have e1 := (hB.cell (p := ⟨b, off + k * 4 + 1, none⟩) hbw).trans (hcl 1 (by omega))
      have e2 := (hB.cell (p := ⟨b, off + k * 4 + 2, none⟩) hbw).trans (hcl 2 (by omega))
      have e3 := (hB.cell (p := ⟨b, off + k * 4 + 3, none⟩) hbw).trans (hcl 3 (by omega))
      clear hcl
      obtain ⟨c0, c1, c2, c3⟩ := h2.cells
      obtain ⟨f0, f1, f2, f3⟩ := h2.frees
      have l2 := h2.lt
      have hne : b ≠ O := by omega
      go_wp2_with fail
      refine wp_loop_rounds 5 ?_
      rw [rounds_succ]; go_wp2_with fail; go_region; go_wp2_with fail
      rw [rounds_succ]; go_wp2_with fail; go_region; go_wp2_with fail
      rw [rounds_succ]; go_wp2_with fail; go_region; go_wp2_with fail
      rw [rounds_succ]; go_wp2_with fail; go_region; go_wp2_with fail
      rw [rounds_succ]; go_wp2_with fail
      go_roundw
      case rel =>
        rw [bits_or, bits_or, bits_or, bits_or]
        refine ⟨k + 1, by omega, by go_num, ?_, ?_, ?_⟩
        · exact (((h1.other _ (by (try dsimp only); omega) _).other _ (by (try dsimp only); omega) _).other _ (by (try dsimp only); omega) _).other _ (by (try dsimp only); omega) _
        · exact h2.store (orTo .empty f (k + 1))
        · exact Blk.belowStore (orTo .empty f (k + 1)) hB.drew.drew.drew.drew (by omega)
      case measure => simp [intOf]; omega
    · obtain rfl : k = len := by omega
      obtain ⟨c0, c1, c2, c3⟩ := h2.cells
      obtain ⟨d0, d1, d2, d3⟩ := h1.cells
      obtain ⟨f0, f1, f2, f3⟩ := h1.frees
      go_wp2_with fail
      exact bodyPost_ret ((h1.store (orTo .empty f k)).results rfl _ rfl) rfl ⟨rfl, Blk.belowStore _ hB (Nat.le_refl _)⟩
end Go.Proofs.YtdnbnigebejgjaaGreatDoor
namespace Go.Proofs.YtdnbnigebejgjaaGreatDoor
open Go.RowKit Go.Shelf
theorem jba_get (l : List UInt8) (i : Nat) (h : i < (ByteArray.mk l.toArray).size) : (ByteArray.mk l.toArray)[i]'h = l[i]'h := rfl
attribute [local go_sem] jba_get
theorem idx_in {m : List UInt8} {x : Nat} {k : Nat} (hk : k < m.length) (h : m[k].toNat = x) : decide (0 ≤ Lib.indexByte m (UInt8.ofNat x)) = true := by
  apply decide_eq_true
  have h1 := Lib.indexByte_ge m (UInt8.ofNat x)
  by_cases h2 : Lib.indexByte m (UInt8.ofNat x) = -1
  · have := Lib.indexByte_none h2 k
    rw [List.getElem?_eq_getElem hk] at this
    exfalso
    apply this
    rw [← h, UInt8.ofNat_toNat]
  · omega
theorem idx_no {m : List UInt8} {x : Nat} (hx : x < 256) (h : ∀ k (hk : k < m.length), m[k].toNat ≠ x) : decide (0 ≤ Lib.indexByte m (UInt8.ofNat x)) = false := by
  apply decide_eq_false
  intro h2
  obtain ⟨o, ho⟩ := Int.eq_ofNat_of_zero_le h2
  have h3 := (Lib.indexByte_some ho).1
  obtain ⟨hk, e⟩ := List.getElem?_eq_some_iff.1 h3
  apply h o hk
  rw [e, UInt8.toNat_ofNat_of_lt' hx]
set_option maxHeartbeats 2000000 in
theorem in_any (m : List UInt8) (hm : m.length < 1000) (x : Nat) (hx : x < 256) (W : World) :
    Calls Tryz.prog 102 #[.int .u8 (x : Int), .string ⟨m.toArray⟩] W fun e w' => e = .returned (.bool (decide (0 ≤ Lib.indexByte m (UInt8.ofNat x)))) ∧ W = w' := by
  obtain ⟨R, hR⟩ : ∃ R, decide (0 ≤ Lib.indexByte m (UInt8.ofNat x)) = R := ⟨_, rfl⟩
  rw [hR]
  have HR := Lib.hid hR
  clear hR
  go_enter Tryz.func102, Tryz.ntmps102
  go_wp2_with fail
  go_loopw [5] (fun i wr => ∃ k : Nat, k ≤ m.length ∧ i = .int .i64 k ∧ Hid (∀ j (hj : j < m.length), j < k → m[j].toNat ≠ x) ∧ wr = W) (fun i _ => m.length - (intOf i).toNat)
  case atStart => exact ⟨0, Nat.zero_le _, rfl, Lib.hid (fun j hj h => absurd h (by omega)), rfl⟩
  case round =>
    obtain ⟨k, hk, rfl, hno, rfl⟩ := hrel
    by_cases hlt : k < m.length
    · have b1 : (k : Int) < (m.length : Int) := by omega
      have bb1 : decide ((k : Int) < (m.length : Int)) = true := decide_eq_true b1
      have ww : IntKind.i64.wrap ((k : Int) + 1) = (k : Int) + 1 := jwrap (by omega) (by omega)
      by_cases he : m[k].toNat = x
      · have HT : Hid (R = true) := Lib.hid (by rw [← HR.out]; exact idx_in hlt he)
        have e1 : ((m[k].toNat : Int) == (x : Int)) = true := by rw [he]; simp
        clear hno
        go_wp2_with fail
        go_ret
        exact ⟨by rw [HT.out]; rfl, rfl⟩
      · have e1 : ((m[k].toNat : Int) == (x : Int)) = false := by
          apply beq_eq_false_iff_ne.2
          omega
        have hn2 : Hid (∀ j (hj : j < m.length), j < k + 1 → m[j].toNat ≠ x) := Lib.hid fun j hj h => by
          by_cases e : j = k
          · subst e; exact he
          · exact hno.out j hj (by omega)
        clear he
        go_wp2_with fail
        go_roundw
        case rel => exact ⟨k + 1, by omega, by go_num, hn2, trivial⟩
        case measure => simp [intOf]; omega
    · obtain rfl : k = m.length := by omega
      have bb1 : decide ((m.length : Int) < (m.length : Int)) = false := decide_eq_false (by omega)
      have HT : Hid (R = false) := Lib.hid (by rw [← HR.out]; exact idx_no hx (fun j hj => hno.out j hj hj))
      go_wp2_with fail
      go_ret
      exact ⟨by rw [HT.out]; rfl, rfl⟩
set_option maxHeartbeats 2000000 in
set_option maxRecDepth 100000 in
theorem letter_any (m : List UInt8) (hm : m.length < 1000) (b : UInt8) (W : World) :
    Calls Tryz.prog 84 #[.int .u8 (b.toNat : Int), .string ⟨m.toArray⟩] W fun e w' => e = .returned (.string ⟨(quo m b).toArray⟩) ∧ Below W.heap.size W w' := by
  have hI := fun w => in_any m hm b.toNat b.toNat_lt w
  rw [UInt8.ofNat_toNat] at hI
  obtain ⟨q, hq⟩ : ∃ q, decide (0 ≤ Lib.indexByte m b) = q := ⟨_, rfl⟩
  rw [hq] at hI
  have HC := Lib.hid hI
  have HR : Hid (quo m b = if q = true then [92, b] else [b]) := Lib.hid (by unfold quo; rw [← hq]; simp only [decide_eq_true_eq])
  have hb : (b.toNat : Int) % 256 = (b.toNat : Int) := by have := b.toNat_lt; omega
  have k1 := fun W : World => jbyte1 W b
  have hB : Below W.heap.size W (W.alloc (.cells #[.int .u8 (b.toNat : Int)] 5)) := (Below.refl _ W).alloc (Nat.le_refl _) _
  clear hq hI
  cases q with
  | true =>
    have k2 : ∀ w : World, (Op.stringOp .add ⟨#[92]⟩ ⟨#[b]⟩).run Tryz.prog w = .ok (.string ⟨#[92, b]⟩) w := fun w => jstr_add [92] [b] (by simp)
    go_enter Tryz.func84, Tryz.ntmps84
    go_wp2_with fail
    refine (HC.out _).mono ?_
    rintro e w' ⟨rfl, rfl⟩
    go_wp2_with fail
    go_ret
    exact ⟨by rw [HR.out]; rfl, hB⟩
  | false =>
    go_enter Tryz.func84, Tryz.ntmps84
    go_wp2_with fail
    refine (HC.out _).mono ?_
    rintro e w' ⟨rfl, rfl⟩
    go_wp2
    go_ret
    exact ⟨by rw [HR.out]; rfl, hB⟩
end Go.Proofs.YtdnbnigebejgjaaGreatDoor
