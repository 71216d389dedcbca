/-
  Words whose low bits are cleared, the lowest bit of a word, and the bytes of a set from one number to another: plain facts. No condition.
  byteset.bytesFrom and the iterator that it returns: the bytes of the set from a number on, ascending, for every loop body that leaves the iterator's own memory alone; math/bits.TrailingZeros64 of a word that is not nought. The table of math/bits must lie in its variable.
  byteset.List: a new slice of the bytes of the set, ascending, nil where there is none, for every set. The table of math/bits must lie in its variable.
-/
import Derived.Test.YtdnbnigebejgjaaGreatDoorHBits
import Derived.Lib.TrailingZeros
import Derived.RangeFuncNested
import Derived.RangeFuncBound
import Derived.RangeFuncCalls
import Derived.RangeFuncLeaves
import Derived.RangeFuncBox
import Derived.Shelf.Abstract
import Derived.Shelf.RegionOpen
import Derived.OwnWalkIn
import Derived.TacticsInMore
import Derived.LoopNIn
import Derived.LoopIn
import Derived.Test.YtdnbnigebejgjaaGreatDoorHSets
import Derived.Maps.AppendAt
namespace Go.Proofs.YtdnbnigebejgjaaGreatDoor
open Go.RowKit
/-- x without its lowest m bits. -/
def hiW (x : BitVec 64) (m : Nat) : BitVec 64 := x >>> m <<< m
theorem hiW_bit (x : BitVec 64) (m j : Nat) : (hiW x m).getLsbD j = (decide (m ≤ j) && x.getLsbD j) := by
  unfold hiW
  rw [BitVec.getLsbD_shiftLeft, BitVec.getLsbD_ushiftRight]
  by_cases h : m ≤ j
  · have e : m + (j - m) = j := by omega
    rw [e]
    by_cases hj : j < 64
    · simp [h, hj]
    · have : x.getLsbD j = false := BitVec.getLsbD_of_ge x j (by omega)
      simp [this]
  · simp [h]
theorem hiW_word (x : BitVec 64) (k : Nat) : IntKind.u64.wrap ((x.toNat : Int) / 2 ^ k * 2 ^ k) = ((hiW x k).toNat : Int) := by
  unfold hiW
  rw [BitVec.toNat_shiftLeft, BitVec.toNat_ushiftRight, Nat.shiftLeft_eq, Nat.shiftRight_eq_div_pow]
  simp only [IntKind.wrap, IntKind.bits, IntKind.signed]
  simp
theorem sub_one_word (x : BitVec 64) : IntKind.u64.wrap ((x.toNat : Int) - 1) = ((x - 1#64).toNat : Int) := by
  have := x.isLt
  rw [BitVec.toNat_sub]
  simp only [IntKind.wrap, IntKind.bits, IntKind.signed]
  simp
  omega
/-- The number of a word's lowest bit. -/
def tz (x : BitVec 64) : Nat := Lib.ctz 64 x.toNat
theorem tz_form (x : BitVec 64) (h : x ≠ 0#64) : tz x < 64 ∧ ∃ m, x.toNat = 2 ^ tz x * (2 * m + 1) := by
  have hx : x.toNat ≠ 0 := fun e => h (BitVec.eq_of_toNat_eq (by simpa using e))
  obtain ⟨m, hm, hk⟩ := Lib.ctzFrom_spec 64 x.toNat (by omega) x.isLt
  have e : tz x = Lib.ctzFrom 64 x.toNat := by simp [tz, Lib.ctz, hx]
  rw [e]
  exact ⟨hk, m, hm⟩
theorem tz_lt (x : BitVec 64) (h : x ≠ 0#64) : tz x < 64 := (tz_form x h).1
theorem tz_bit (x : BitVec 64) (h : x ≠ 0#64) : x.getLsbD (tz x) = true := by
  obtain ⟨_, m, hm⟩ := tz_form x h
  show x.toNat.testBit (tz x) = true
  rw [hm, Nat.mul_comm, Nat.testBit_mul_two_pow]
  simp [Nat.testBit_zero]
theorem tz_low (x : BitVec 64) (h : x ≠ 0#64) (j : Nat) (hj : j < tz x) : x.getLsbD j = false := by
  obtain ⟨_, m, hm⟩ := tz_form x h
  show x.toNat.testBit j = false
  rw [hm, Nat.mul_comm, Nat.testBit_mul_two_pow]
  simp; omega
theorem tz_clear (x : BitVec 64) (h : x ≠ 0#64) (j : Nat) : (x &&& (x - 1#64)).getLsbD j = (x.getLsbD j && decide (tz x < j)) := by
  obtain ⟨hk, m, hm⟩ := tz_form x h
  have hp : 0 < 2 ^ tz x := Nat.two_pow_pos _
  have hlt := x.isLt
  have h1 : (x - 1#64).toNat = 2 ^ tz x * (2 * m) + (2 ^ tz x - 1) := by
    rw [BitVec.toNat_sub]
    have e1 : x.toNat = 2 ^ tz x * (2 * m) + 2 ^ tz x := by rw [hm, Nat.mul_add, Nat.mul_one]
    simp
    omega
  have e2 : x.toNat = 2 ^ tz x * (2 * m + 1) + 0 := by omega
  rw [BitVec.getLsbD_and]
  show (x.toNat.testBit j && (x - 1#64).toNat.testBit j) = (x.toNat.testBit j && decide (tz x < j))
  rw [h1, e2, Nat.testBit_two_pow_mul_add _ (by omega), Nat.testBit_two_pow_mul_add _ (by omega)]
  by_cases hj : j < tz x
  · simp [hj]
  · simp only [hj, if_false]
    by_cases he : j = tz x
    · subst he; simp [Nat.testBit_zero]
    · have : tz x < j := by omega
      obtain ⟨i, hi⟩ : ∃ i, j - tz x = i + 1 := ⟨j - tz x - 1, by omega⟩
      rw [hi, Nat.testBit_succ, Nat.testBit_succ]
      have d1 : (2 * m + 1) / 2 = m := by omega
      have d2 : (2 * m) / 2 = m := by omega
      simp [d1, d2, this]
/-- The bytes of s from f on, below n, ascending. -/
def upto (s : WSet) (f n : Nat) : List Nat := (List.range n).filter fun b => decide (f ≤ b) && s.has b
theorem upto_none (s : WSet) (f n k : Nat) (h : ∀ j, n ≤ j → j < n + k → (decide (f ≤ j) && s.has j) = false) : upto s f (n + k) = upto s f n := by
  induction k with
  | zero => rfl
  | succ k ih =>
    rw [← ih (fun j h1 h2 => h j h1 (by omega)), ← Nat.add_assoc]
    unfold upto
    rw [List.range_succ, List.filter_append]
    have := h (n + k) (by omega) (by omega)
    simp [this]
theorem upto_snoc (s : WSet) (f n : Nat) (h : (decide (f ≤ n) && s.has n) = true) : upto s f (n + 1) = upto s f n ++ [n] := by
  unfold upto
  rw [List.range_succ, List.filter_append]
  simp [h]
theorem has_word (s : WSet) (i j : Nat) (hj : j < 64) : s.has (64 * i + j) = (s.w i).getLsbD j := by
  unfold WSet.has
  have e1 : (64 * i + j) / 64 = i := by omega
  have e2 : (64 * i + j) % 64 = j := by omega
  rw [e1, e2]
/-- A round of the inner loop: the lowest bit that is left. -/
theorem upto_step (s : WSet) (f i m : Nat) (hf : f ≤ 64 * i + m) (hm : m ≤ 64) (h : hiW (s.w i) m ≠ 0#64) :
    m ≤ tz (hiW (s.w i) m) ∧ tz (hiW (s.w i) m) < 64 ∧ upto s f (64 * i + tz (hiW (s.w i) m) + 1) = upto s f (64 * i + m) ++ [64 * i + tz (hiW (s.w i) m)] ∧
    (hiW (s.w i) m &&& (hiW (s.w i) m - 1#64)) = hiW (s.w i) (tz (hiW (s.w i) m) + 1) := by
  have h1 := tz_lt _ h
  have h2 := tz_bit _ h
  have h3 := tz_low _ h
  have h4 := tz_clear _ h
  generalize ht : tz (hiW (s.w i) m) = t at *
  rw [hiW_bit] at h2
  have hmt : m ≤ t := by simp at h2; omega
  have hb : (s.w i).getLsbD t = true := by simp at h2; exact h2.2
  refine ⟨hmt, h1, ?_, ?_⟩
  · rw [upto_snoc s f (64 * i + t) (by rw [has_word _ _ _ h1, hb]; simp; omega)]
    congr 1
    obtain ⟨d, rfl⟩ : ∃ d, t = m + d := ⟨t - m, by omega⟩
    rw [← Nat.add_assoc]
    apply upto_none
    intro j hj1 hj2
    obtain ⟨e, rfl⟩ : ∃ e, j = 64 * i + e := ⟨j - 64 * i, by omega⟩
    have := h3 e (by omega)
    rw [hiW_bit] at this
    rw [has_word _ _ _ (by omega)]
    have hme : m ≤ e := by omega
    simp [hme] at this
    simp [this]
  · apply BitVec.eq_of_getLsbD_eq
    intro j hj
    rw [h4, hiW_bit, hiW_bit]
    by_cases a : t < j
    · have b : m ≤ j := by omega
      have c : t + 1 ≤ j := by omega
      simp [a, b, c]
    · have c : ¬ t + 1 ≤ j := by omega
      simp [a, c]
/-- The inner loop's end: no bit is left. -/
theorem upto_end (s : WSet) (f i m : Nat) (hm : m ≤ 64) (h : hiW (s.w i) m = 0#64) : upto s f (64 * (i + 1)) = upto s f (64 * i + m) := by
  have e : 64 * (i + 1) = 64 * i + m + (64 - m) := by omega
  rw [e]
  apply upto_none
  intro j hj1 hj2
  obtain ⟨t, rfl⟩ : ∃ t, j = 64 * i + t := ⟨j - 64 * i, by omega⟩
  have := hiW_bit (s.w i) m t
  rw [h] at this
  have hmt : m ≤ t := by omega
  rw [has_word _ _ _ (by omega)]
  simp [hmt] at this
  simp [this]
/-- The inner loop's start. -/
theorem upto_start (s : WSet) (f i : Nat) : upto s f (64 * i + min (f - 64 * i) 64) = upto s f (64 * i) := by
  apply upto_none
  intro j hj1 hj2
  have : ¬ f ≤ j := by omega
  simp [this]
theorem hiW_min (x : BitVec 64) (k : Nat) : hiW x (min k 64) = hiW x k := by
  apply BitVec.eq_of_getLsbD_eq
  intro j hj
  rw [hiW_bit, hiW_bit]
  by_cases h : k ≤ j
  · have : min k 64 ≤ j := by omega
    simp [h, this]
  · have : ¬ min k 64 ≤ j := by omega
    simp [h, this]
theorem hiW_zero (x : BitVec 64) : hiW x 0 = x := by
  apply BitVec.eq_of_getLsbD_eq
  intro j hj
  rw [hiW_bit]; simp
theorem hiW_64 (x : BitVec 64) : hiW x 64 = 0#64 := by
  apply BitVec.eq_of_getLsbD_eq
  intro j hj
  rw [hiW_bit]; simp; omega
theorem clear_lt (x : BitVec 64) (h : x ≠ 0#64) : (x &&& (x - 1#64)).toNat < x.toNat := by
  have hx : x.toNat ≠ 0 := fun e => h (BitVec.eq_of_toNat_eq (by simpa using e))
  have hlt := x.isLt
  have h1 : (x - 1#64).toNat = x.toNat - 1 := by rw [BitVec.toNat_sub]; simp; omega
  have h2 : (x &&& (x - 1#64)).toNat ≤ (x - 1#64).toNat := by rw [BitVec.toNat_and]; exact Nat.and_le_right
  omega
theorem upto_length (s : WSet) (f n : Nat) : (upto s f n).length ≤ n := by
  unfold upto
  exact Nat.le_trans (List.length_filter_le _ _) (by simp)
theorem upto_prefix (s : WSet) (f n k : Nat) : ∃ l, upto s f n ++ l = upto s f (n + k) := by
  induction k with
  | zero => exact ⟨[], by simp⟩
  | succ k ih =>
    obtain ⟨l, hl⟩ := ih
    by_cases h : (decide (f ≤ n + k) && s.has (n + k)) = true
    · exact ⟨l ++ [n + k], by rw [← Nat.add_assoc, upto_snoc _ _ _ h, ← hl]; simp⟩
    · refine ⟨l, ?_⟩
      rw [hl, ← Nat.add_assoc]
      symm
      apply upto_none s f (n + k) 1
      intro j h1 h2
      obtain rfl : j = n + k := by omega
      simpa using h
end Go.Proofs.YtdnbnigebejgjaaGreatDoor
namespace Go.Proofs.YtdnbnigebejgjaaGreatDoor
open Go.RowKit Go.Shelf
attribute [local go_sem] Oper.semAt_some
/-- The blocks of ks lie as they lay. -/
def KeepsAt (ks : Nat → Prop) (A B : World) : Prop := ∀ k, ks k → B.heap[k]? = A.heap[k]?
theorem KeepsAt.refl (ks : Nat → Prop) (A : World) : KeepsAt ks A A := fun _ _ => rfl
theorem KeepsAt.trans {ks : Nat → Prop} {A B C : World} (h : KeepsAt ks A B) (k : KeepsAt ks B C) : KeepsAt ks A C := fun i hi => (k i hi).trans (h i hi)
theorem KeepsAt.cell {ks : Nat → Prop} {A B : World} (h : KeepsAt ks A B) {p : Addr} (hp : ks p.block) : B.cell? p = A.cell? p := World.cell?_of_block (w := A) (h p.block hp)
theorem KeepsAt.blk {ks : Nat → Prop} {A B : World} {k : Nat} {s : WSet} (h : KeepsAt ks A B) (hs : Blk A k s) (hp : ks k) : Blk B k s := (h k hp).trans hs
theorem KeepsAt.alloc {ks : Nat → Prop} {A B : World} (h : KeepsAt ks A B) (hk : ∀ k, ks k → k < B.heap.size) (o : Obj) : KeepsAt ks A (B.alloc o) := fun k hp => (Below.heap_alloc _ _ _ (hk k hp)).trans (h k hp)
theorem KeepsAt.setCell {ks : Nat → Prop} {A B : World} (h : KeepsAt ks A B) {p : Addr} (hp : ¬ ks p.block) (u : Value) : KeepsAt ks A (B.setCell p u) := fun k hk => (Below.heap_setCell _ _ _ _ (fun e => hp (e ▸ hk))).trans (h k hk)
theorem KeepsAt.below {ks : Nat → Prop} {A B : World} {n : Nat} (h : Below n A B) (hk : ∀ k, ks k → k < n) : KeepsAt ks A B := fun k hp => h.block k (hk k hp)
theorem keepsAt_b {ks : Nat → Prop} {w : World} (hk : ∀ k, ks k → k < w.heap.size) (W : World) (l : Nat) (o o' : Obj) (hl : w.heap.size ≤ l) (h : W.heap[l]? = some o) (_ : o.isCells = false) (_ : o.isWalk = false) : KeepsAt ks W (W.putObj l o') :=
  fun k hp => (belowK_b (n₀ := w.heap.size) (Nat.le_refl _) W l o o' hl h ‹_› ‹_›).block k (hk k hp)
/-- The de Bruijn table lies in its variable. -/
def Tab (w : World) : Prop := ∀ j, j < 64 → w.cell? ⟨1, j, none⟩ = some (.int .u8 (Lib.deBruijn64tab.getD j 0))
theorem Tab.below {w w' : World} {n : Nat} (h : Tab w) (hb : Below n w w') (hn : 1 < n) : Tab w' := fun j hj => (hb.cell (p := ⟨1, j, none⟩) hn).trans (h j hj)
theorem Tab.keeps {ks : Nat → Prop} {w w' : World} (h : Tab w) (hb : KeepsAt ks w w') (hn : ks 1) : Tab w' := fun j hj => (hb.cell (p := ⟨1, j, none⟩) hn).trans (h j hj)
theorem bits_and_u64_nat' (a b : Nat) (ha : a < 18446744073709551616) (hb : b < 18446744073709551616) : bits .and .u64 (a : Int) (b : Int) = ((a &&& b : Nat) : Int) := by
  have := bits_and (BitVec.ofNat 64 a) (BitVec.ofNat 64 b)
  rw [BitVec.toNat_and, BitVec.toNat_ofNat, BitVec.toNat_ofNat, Nat.mod_eq_of_lt (by omega), Nat.mod_eq_of_lt (by omega)] at this
  exact this
theorem tz_key (x a : Nat) (hx : x < 18446744073709551616) (hx0 : x ≠ 0) (hlow : x &&& (18446744073709551616 - x) = a) :
    IntKind.u64.wrap (bits BinOp.and IntKind.u64 (x : Int) (IntKind.u64.wrap (-(x : Int))) * 285870213051353865) / 288230376151711744 = ((a * 285870213051353865 % 18446744073709551616 / 288230376151711744 : Nat) : Int) := by
  have e1 : IntKind.u64.wrap (-(x : Int)) = ((18446744073709551616 - x : Nat) : Int) := by rw [IntKind.wrap_u64]; omega
  rw [e1, bits_and_u64_nat' x _ hx (by omega), hlow, IntKind.wrap_u64]
  omega
set_option maxHeartbeats 1000000 in
theorem tz_core (x : Int) (k idx : Nat) (w : World) (hx0 : (x == 0) = false)
    (key : IntKind.u64.wrap (bits BinOp.and IntKind.u64 x (IntKind.u64.wrap (-x)) * 285870213051353865) / 288230376151711744 = (idx : Int))
    (hi : idx < 64) (hk : k < 64) (hcell : w.cell? ⟨1, idx, none⟩ = some (.int .u8 k)) :
    Calls Tryz.prog 112 #[.int .u64 x] w fun e w' => e = .returned (.int .i64 k) ∧ w' = w := by
  go_enter Tryz.func112, Tryz.ntmps112
  go_wp2_with (simp only [key])
  go_ret
  exact ⟨rfl, rfl⟩
theorem tz_any (x : BitVec 64) (h0 : x ≠ 0#64) (w : World) (hT : Tab w) :
    Calls Tryz.prog 112 #[.int .u64 x.toNat] w fun e w' => e = .returned (.int .i64 (tz x)) ∧ w = w' := by
  have hx : x.toNat ≠ 0 := fun e => h0 (BitVec.eq_of_toNat_eq (by simpa using e))
  obtain ⟨hlow, hk⟩ := Lib.lowest_bit 64 x.toNat hx x.isLt
  obtain ⟨hi, htab⟩ := Lib.deBruijn64_at _ hk
  have hcell := hT _ hi
  rw [htab] at hcell
  have hlt := x.isLt
  exact (tz_core x.toNat (tz x) _ w (by simp; omega) (tz_key x.toNat _ (by omega) hx hlow) hi hk hcell).mono fun _ _ ⟨he, hw⟩ => ⟨he, hw.symm⟩
set_option maxHeartbeats 1000000 in
theorem bytesFrom_any (a b c d : BitVec 64) (from_ : Int) (w : World) :
    Calls Tryz.prog 97 #[.agg #[.int .u64 a.toNat, .int .u64 b.toNat, .int .u64 c.toNat, .int .u64 d.toNat], .int .i64 from_] w fun e w' => e = .returned (.func (.func 111) #[] #[.pointer (some ⟨w.heap.size + 1, 0, none⟩), .pointer (some ⟨w.heap.size, 0, none⟩)]) ∧ w' = (w.alloc (.cells #[.int .u64 a.toNat, .int .u64 b.toNat, .int .u64 c.toNat, .int .u64 d.toNat] 41)).alloc (.cells #[.int .i64 (from_.toNat : Int)] 3) := by
  go_enter Tryz.func97, Tryz.ntmps97
  go_wp2
  · go_ret
    have h : from_ < 0 := by assumption
    exact ⟨rfl, by rw [show max from_ 0 = 0 by omega]⟩
  · go_ret
    have h : 0 ≤ from_ := by assumption
    exact ⟨rfl, by rw [show max from_ 0 = from_ by omega]⟩
set_option maxRecDepth 100000 in
set_option maxHeartbeats 2000000 in
/-- The closure of bytesFrom: the bytes of s from f on, for every loop body that keeps the table, the set and the start. -/
theorem bytes1_in (n : Nat) (hn : 1 ≤ n) (l Bf Bs f : Nat) (ks : Nat → Prop) (hf : (f : Int) ≤ 9223372036854775807) (s : WSet) (hBf : ks Bf) (hBs : ks Bs) (h0n : ks 1) (J Jx : List Nat → World → Prop)
    (hY : ∀ pre x W, J pre W → pre.length < 256 → YieldAt Fence.wide (n - 1) Tryz.prog l #[.int .i64 (x : Nat)] W fun e W' =>
      (e = .returned (.bool true) ∧ J (pre ++ [x]) W' ∧ KeepsAt ks W W') ∨ (e = .returned (.bool false) ∧ Jx (pre ++ [x]) W'))
    (W : World) (hT : Tab W) (hs : Blk W Bs s) (hfc : W.cell? ⟨Bf, 0, none⟩ = some (.int .i64 (f : Int))) (h0 : J [] W) :
    CallsIn Fence.wide n Tryz.prog 111 #[.func (.yield l) #[] #[], .pointer (some ⟨Bf, 0, none⟩), .pointer (some ⟨Bs, 0, none⟩)] W fun e W' => (∃ v, e = .returned v) ∧
      ((∃ ys, ys = upto s f 256 ∧ J ys W') ∨ (∃ pre, (∃ k, pre ++ k = upto s f 256) ∧ Jx pre W')) := by
  refine callsIn_of_wp Tryz.func111 rfl trivial ?_ rfl
  simp only [Tryz.ntmps111, List.size_toArray, List.length_cons, List.length_nil, Nat.reduceAdd, Nat.reduceSub, Array.replicate_succ, Array.replicate_zero, List.push_toArray, List.append_toArray, List.nil_append, List.cons_append]
  gi_wp2
  gi_loopw [7] (fun i wr => ∃ k : Nat, k ≤ 4 ∧ i = .int .i64 k ∧ J (upto s f (64 * k)) wr ∧ KeepsAt ks W wr)
    (fun i _ => 4 - (intOf i).toNat)
  case atStart => exact ⟨0, by omega, rfl, h0, KeepsAt.refl _ _⟩
  case round =>
    obtain ⟨k, hk, rfl, hJ, hB⟩ := hrel
    by_cases hlt : k < 4
    · have hw := (hB.blk hs hBs).cell k hlt
      have hfr := (hB.cell (p := ⟨Bf, 0, none⟩) hBf).trans hfc
      have hst := upto_start s f k
      have hk4 : decide ((k : Int) < 4) = true := by simp; omega
      by_cases hfk : 64 * k ≤ f
      all_goals
        first
          | (have q1 : 64 * (k : Int) ≤ (f : Int) := by omega
             have q2 : 0 ≤ (f : Int) - 64 * (k : Int) := by omega
             gi_wp2
             rw [hiW_word])
          | (have q1 : (f : Int) < 64 * (k : Int) := by omega
             have q2 : (f : Int) - 64 * (k : Int) < 0 := by omega
             gi_wp2
             skip)
        gi_loopw [6] (fun v wr' => ∃ m : Nat, (f ≤ 64 * k + m ∨ m = 64) ∧ m ≤ 64 ∧ v = .int .u64 ((hiW (s.w k) m).toNat : Int) ∧ J (upto s f (64 * k + m)) wr' ∧ KeepsAt ks W wr')
          (fun v _ => (intOf v).toNat)
        case atStart =>
          first
            | (refine ⟨min (f - 64 * k) 64, ?_, ?_, rfl, ?_, hB⟩
               · omega
               · omega
               · rw [hst]; exact hJ)
            | (refine ⟨0, ?_, ?_, ?_, hJ, hB⟩
               · omega
               · omega
               · rw [hiW_zero])
        case round =>
          obtain ⟨m, hfm, hm, rfl, hJm, hBm⟩ := hrel
          by_cases hw0 : hiW (s.w k) m = 0#64
          · have ht : (((hiW (s.w k) m).toNat : Int) != 0) = false := by rw [hw0]; rfl
            have HE := Lib.hid (upto_end s f k m hm hw0)
            gi_wp2
            go_roundw
            case rel => exact ⟨k + 1, by omega, by go_num, by rw [HE.out]; exact hJm, hBm⟩
            case measure => simp [intOf]; omega
          · have ht : (((hiW (s.w k) m).toNat : Int) != 0) = true := by
              have hx : (hiW (s.w k) m).toNat ≠ 0 := fun e => hw0 (BitVec.eq_of_toNat_eq (by simpa using e))
              simp; omega
            have hfm' : f ≤ 64 * k + m := by
              rcases hfm with h | h
              · exact h
              · exact (hw0 (by rw [h, hiW_64])).elim
            obtain ⟨s1, s2, s3, s4⟩ := upto_step s f k m hfm' hm hw0
            have hTr : Tab _ := hT.keeps hBm h0n
            have hlen := upto_length s f (64 * k + m)
            have hcl := clear_lt _ hw0
            obtain ⟨fn, tmps, assign, body, hy, hR⟩ := hY _ (64 * k + tz (hiW (s.w k) m)) _ hJm (by omega)
            have S3 := Lib.hid s3
            have S4 := Lib.hid s4
            have HC := Lib.hid hcl
            have HT := Lib.hid hTr
            clear s3 s4 hcl hTr
            rw [show (((64 * k + tz (hiW (s.w k) m) : Nat)) : Int) = 64 * (k : Int) + (tz (hiW (s.w k) m) : Int) by omega] at hy
            gi_wp2_with (refine ⟨trivial, ?_⟩; gi_at_call 112; refine (callsIn_wide.2 (tz_any _ hw0 _ HT.out)).mono ?_; rintro e w' ⟨rfl, rfl⟩)
            refine hR.mono ?_
            rintro e W3 (⟨rfl, hJ3, hk3⟩ | ⟨rfl, hJx3⟩)
            · gi_wp2
              go_roundw
              case rel =>
                rw [sub_one_word, bits_and, S4.out]
                exact ⟨_, .inl (by omega), by omega, rfl, by rw [show 64 * k + (tz (hiW (s.w k) m) + 1) = 64 * k + tz (hiW (s.w k) m) + 1 by omega, S3.out]; exact hJ3, hBm.trans hk3⟩
              case measure =>
                rw [sub_one_word, bits_and]
                simp only [intOf, Int.toNat_natCast]
                exact HC.out
            · gi_wp2
              refine bodyPost_ret (results_none rfl _ _ _) rfl ?_
              refine ⟨⟨_, rfl⟩, .inr ⟨_, ?_, hJx3⟩⟩
              rw [← S3.out]
              obtain ⟨l', hl'⟩ := upto_prefix s f (64 * k + tz (hiW (s.w k) m) + 1) (256 - (64 * k + tz (hiW (s.w k) m) + 1))
              exact ⟨l', by rw [hl']; congr 1; omega⟩
    · obtain rfl : k = 4 := by omega
      gi_wp2
      go_end0
      exact ⟨⟨_, rfl⟩, .inl ⟨_, rfl, hJ⟩⟩
theorem bytes_stops (n : Nat) (hn : 1 ≤ n) (Bf Bs f : Nat) (ks : Nat → Prop) (hf : (f : Int) ≤ 9223372036854775807) (s : WSet) (hBf : ks Bf) (hBs : ks Bs) (h0n : ks 1) (w : World)
    (hk : ∀ k, ks k → k < w.heap.size) (hT : Tab w) (hs : Blk w Bs s) (hfc : w.cell? ⟨Bf, 0, none⟩ = some (.int .i64 (f : Int))) :
    SeqStopsK Fence.wide n Tryz.prog 111 #[.pointer (some ⟨Bf, 0, none⟩), .pointer (some ⟨Bs, 0, none⟩)] (fun x : Nat => #[Value.int .i64 (x : Int)]) (KeepsAt ks) (fun ys => ys = upto s f 256) (fun pre => ∃ k, pre ++ k = upto s f 256) 256 w :=
  fun l J Jx W hW _ _ hY h0 => by
    have hK : KeepsAt ks w W := KeepsAt.below hW hk
    exact bytes1_in n hn l Bf Bs f ks hf s hBf hBs h0n J Jx hY W (hT.keeps hK h0n) (hK.blk hs hBs) ((hK.cell (p := ⟨Bf, 0, none⟩) hBf).trans hfc) h0
end Go.Proofs.YtdnbnigebejgjaaGreatDoor
namespace Go.Proofs.YtdnbnigebejgjaaGreatDoor
open Go.RowKit Go.Shelf
attribute [local go_sem] Oper.semAt_some
theorem info5 : (Tryz.prog.info? 5).map (fun i => (i.zero, i.size, i.bytes)) = some (some (.int .u8 0), 1, 1) := by kernel_rfl
theorem Blk.kept {W W' : World} {row : Option Nat} {B : Nat} {s : WSet} (h : Blk W B s) (hg : W.grownBy W' row) (hne : some B ≠ row) : Blk W' B s := (hg.block B h.lt hne).trans h
theorem Blk.not_row {W : World} {B : Nat} {e : TypeId} {s : WSet} (h : Blk W B s) (hte : 41 ≠ e) {base size k : Nat} {v : Value} {xs : List Value} (hr : W.ownsRow base e size v k xs) : some B ≠ v.ownBlock := by
  rcases hr.2 with ⟨rfl, _⟩ | ⟨g, cap, cur, rfl, _, hgb, _⟩
  · simp [Value.ownBlock]
  · intro e'
    obtain rfl : B = g := by simpa [Value.ownBlock] using e'
    have := (show W.heap[B]? = _ from h).symm.trans hgb
    simp at this
    exact hte this.2
theorem Blk.own {W W' : World} {row : Option Nat} {B : Nat} {s : WSet} (h : Blk W B s) (hg : W.grownBy W' row) (hr : ∀ r, row = some r → ∃ o : Obj, W.heap[r]? = some o ∧ o.isCells = false) : Blk W' B s :=
  h.kept hg (fun e => by obtain ⟨o, ho, hc⟩ := hr B e.symm; rw [show W.heap[B]? = _ from h] at ho; cases ho; cases hc)
theorem boxedOwn {W W' : World} {row : Option Nat} {B : Nat} {t : TypeId} {v : Value} (h : Boxed W B t v) (hg : W.grownBy W' row) (hr : ∀ r, row = some r → ∃ o : Obj, W.heap[r]? = some o ∧ o.isCells = false) : Boxed W' B t v :=
  h.kept hg (fun e => by obtain ⟨o, ho, hc⟩ := hr B e.symm; rw [show W.heap[B]? = _ from h] at ho; cases ho; cases hc)
/-- A byte's cell. -/
def enc8 (x : Nat) : Value := .int .u8 ((x : Int) % 256)
set_option maxRecDepth 100000 in
set_option maxHeartbeats 2000000 in
theorem list_any (a b c d : BitVec 64) (w : World) (hT : Tab w) (h0w : 1 < w.heap.size) :
    Calls Tryz.prog 77 #[.agg #[.int .u64 a.toNat, .int .u64 b.toNat, .int .u64 c.toNat, .int .u64 d.toNat]] w fun e w' =>
      ∃ v, e = .returned v ∧ w'.ownsRow w.heap.size 5 1 v (upto ⟨a, b, c, d⟩ 0 256).length ((upto ⟨a, b, c, d⟩ 0 256).map enc8) ∧ (v = .slice none 0 0 ↔ upto ⟨a, b, c, d⟩ 0 256 = []) ∧ Below w.heap.size w w' := by
  obtain ⟨i0, hi, hz0, hz1, hz2⟩ := info_parts info5
  refine (callsIn_wide (n := 3)).1 ?_
  refine callsIn_of_wp_marks Tryz.func77 rfl trivial ?_ rfl
  simp only [Tryz.ntmps77, List.size_toArray, List.length_cons, List.length_nil, Nat.reduceAdd, Nat.reduceSub, Array.replicate_succ, Array.replicate_zero, List.push_toArray, List.append_toArray, List.nil_append, List.cons_append]
  gi_wp2_with (refine ⟨trivial, ?_⟩; gi_at_call 97; refine (callsIn_wide.2 (bytesFrom_any _ _ _ _ _ _)).mono ?_; rintro e w' ⟨rfl, rfl⟩)
  generalize hw4 : (((w.alloc (.cells #[.int .u64 a.toNat, .int .u64 b.toNat, .int .u64 c.toNat, .int .u64 d.toNat] 41)).alloc (.cells #[.slice none 0 0] 103)).alloc (.cells #[.int .u64 a.toNat, .int .u64 b.toNat, .int .u64 c.toNat, .int .u64 d.toNat] 41)).alloc (.cells #[.int .i64 0] 3) = w4
  have hz4 : w4.heap.size = w.heap.size + 4 := by rw [← hw4]; simp
  have hB4 : Below w.heap.size w w4 := by rw [← hw4]; go_grown
  have hL4 : Boxed w4 (w.heap.size + 1) 103 (.slice none 0 0) := by
    have := ((Boxed.new (w.alloc (.cells #[.int .u64 a.toNat, .int .u64 b.toNat, .int .u64 c.toNat, .int .u64 d.toNat] 41)) 103 (.slice none 0 0)).alloc (.cells #[.int .u64 a.toNat, .int .u64 b.toNat, .int .u64 c.toNat, .int .u64 d.toNat] 41)).alloc (.cells #[.int .i64 0] 3)
    rw [World.size_alloc] at this
    rw [← hw4]; exact this
  have hS4 : Blk w4 (w.heap.size + 1 + 1) ⟨a, b, c, d⟩ := by
    have := (Blk.new ((w.alloc (.cells #[.int .u64 a.toNat, .int .u64 b.toNat, .int .u64 c.toNat, .int .u64 d.toNat] 41)).alloc (.cells #[.slice none 0 0] 103)) ⟨a, b, c, d⟩).alloc (.cells #[.int .i64 0] 3)
    rw [World.size_alloc, World.size_alloc] at this
    rw [← hw4]; exact this
  have hF4 : Boxed w4 (w.heap.size + 1 + 1 + 1) 3 (.int .i64 0) := by
    have := Boxed.new (((w.alloc (.cells #[.int .u64 a.toNat, .int .u64 b.toNat, .int .u64 c.toNat, .int .u64 d.toNat] 41)).alloc (.cells #[.slice none 0 0] 103)).alloc (.cells #[.int .u64 a.toNat, .int .u64 b.toNat, .int .u64 c.toNat, .int .u64 d.toNat] 41)) 3 (.int .i64 0)
    rw [World.size_alloc, World.size_alloc, World.size_alloc] at this
    rw [← hw4]; exact this
  have hT4 : Tab w4 := hT.below hB4 h0w
  clear hw4
  refine wpIn_rangeFunc_ownG rfl (by omega) (gf := 111) (lb := #[.pointer (some ⟨w.heap.size + 1 + 1 + 1, 0, none⟩), .pointer (some ⟨w.heap.size + 1 + 1, 0, none⟩)]) rfl trivial (enters_of Tryz.func111 (by kernel_rfl) rfl)
    (bytes_stops (3 - 1) (by omega) (w.heap.size + 1 + 1 + 1) (w.heap.size + 1 + 1) 0 (fun k => k = 1 ∨ k = w.heap.size + 1 + 1 ∨ k = w.heap.size + 1 + 1 + 1) (by omega) ⟨a, b, c, d⟩ (Or.inr (Or.inr rfl)) (Or.inr (Or.inl rfl)) (Or.inl rfl) w4 (by intro k hk; omega) hT4 hS4 hF4.cell)
    KeepsAt.trans (keepsAt_b (by intro k hk; omega)) (Below.refl _ _) (fun _ => rfl)
    (fun pre W => ((Blk W (w.heap.size + 1 + 1) ⟨a, b, c, d⟩ ∧ Boxed W (w.heap.size + 1 + 1 + 1) 3 (.int .i64 0)) ∧ ∃ v, Boxed W (w.heap.size + 1) 103 v ∧ W.ownsRow w.heap.size 5 1 v pre.length (pre.map enc8) ∧ (v = .slice none 0 0 ↔ pre = [])) ∧ Below w.heap.size w W)
    (fun _ _ _ => False)
    (OwnFrom.and (OwnFrom.and (Own.from (fun s A B row hs hg hr => ⟨hs.1.own hg hr, boxedOwn hs.2 hg hr⟩) _) (Own.from (holdsRow_own w.heap.size (w.heap.size + 1) 103 5 1 (fun pre : List Nat => pre.length) (fun pre => pre.map enc8) (fun pre v => v = .slice none 0 0 ↔ pre = [])) _)) (ownFrom_below (Nat.le_refl _) (by omega)))
    (fun _ _ _ _ _ hs _ _ => hs)
    ⟨⟨⟨hS4, hF4⟩, _, hL4, World.ownsRow_nil _ _ _ _, by simp⟩, hB4⟩
    (fun x => { tmps := #[.agg #[.int .u64 a.toNat, .int .u64 b.toNat, .int .u64 c.toNat, .int .u64 d.toNat], .pointer (some ⟨w.heap.size, 0, none⟩), .slice none 0 0, .pointer (some ⟨w.heap.size + 1, 0, none⟩), .int .i64 (x : Int), .agg #[.int .u64 a.toNat, .int .u64 b.toNat, .int .u64 c.toNat, .int .u64 d.toNat],
        .func (.func 111) #[] #[.pointer (some ⟨w.heap.size + 1 + 1 + 1, 0, none⟩), .pointer (some ⟨w.heap.size + 1 + 1, 0, none⟩)], .int .i64 (x : Int), undef, undef, undef, undef, undef, undef], defers := [] }) ?assign ?body ?done ?stop
  case assign =>
    intro l x W K hK
    gi_wp2
    exact hK
  case body =>
    rintro l pre x W ⟨⟨⟨hS, hF⟩, v, hv, hrow, hnil⟩, hB⟩ hlt
    have hc := hv.cell
    gi_wp2_with (gi_at_builtin; refine wpListIn_append_own _ rfl _ _ 103 rfl w.heap.size 5 i0 (.int .u8 0) 1 1 Tryz.underlying103 hi hz0 hz1 hz2 rfl (by decide) _ _ _ rfl (hrow.alloc _) ⟨W.heap.size, 0, none⟩ 1 1 [.int .u8 ((x : Int) % 256)] rfl rfl (cell_one_new _ _ _) (by simp [Value.oneCell']) (by unfold maxLen; omega) (by omega) (by have := hB.size; simp; omega) ?_; intro v' w1 hown' hgrow _; obtain ⟨g', cap', rfl⟩ := ownsRow_succ hown'; obtain ⟨hv1, hv2, hr2, hk2, hb2⟩ := hv.appended (by decide) hrow hB.size (by omega) hown' hgrow; have hS1 : Blk w1 _ _ := (hS.alloc _).kept hgrow (hS.not_row (by decide) hrow); have hF1 : Boxed w1 _ _ _ := (hF.alloc _).kept hgrow (hF.not_row (by decide) hrow); have hc1 := hv1.cell; have hf1 := hv1.frozen)
    have hS2 := hS1.other ⟨w.heap.size + 1, 0, none⟩ (by simp) (.slice (some ⟨g', 0, none⟩) (pre.length + 1) cap')
    have hF2 := hF1.kept (grownBy_setCell' w1 (w.heap.size + 1) (.slice (some ⟨g', 0, none⟩) (pre.length + 1) cap')) (by simp; omega)
    refine ⟨hk2.from _, ?_, ⟨⟨hS2, hF2⟩, _, hv2, by simpa [enc8] using hr2, by simp⟩, hB.trans hb2⟩
    rintro k (rfl | rfl | rfl)
    · exact hb2.block _ h0w
    · exact (show _ = _ from hS2).trans (show _ = _ from hS).symm
    · exact (show _ = _ from hF2).trans (show _ = _ from hF).symm
  case done =>
    rintro D ys W hD rfl ⟨⟨⟨hS, hF⟩, v, hv, hrow, hnil⟩, hB⟩ hK
    have hc := hv.cell
    gi_wp2
    refine ⟨by simp, .inl ⟨_, _, rfl, run_takeDeferred hK, ?_⟩⟩
    exact ⟨_, results_tmp rfl _ _ _, v, rfl, ownsRow_putObj hrow _ hK rfl, hnil, hB.trans (belowK_b (w := w) (Nat.le_refl _) W D _ _ (by omega) hK rfl rfl)⟩
  case stop =>
    rintro D c pre W _ _ h _
    exact h.elim
end Go.Proofs.YtdnbnigebejgjaaGreatDoor
