/-
  byteset.bytesFrom and the iterator that it returns: the bytes of the set from a number on, ascending, for every loop body that leaves the iterator's own memory alone; math/bits.TrailingZeros64 of a word that is not nought. The table of math/bits must lie in its variable.
-/
import Derived.RangeFuncNested
import Derived.RangeFuncBound
import Derived.RangeFuncCalls
import Derived.RangeFuncLeaves
import Derived.RangeFuncBox
import Derived.Shelf.Abstract
import Derived.Shelf.RegionOpen
import Derived.OwnWalkIn
import Derived.TacticsInMore
import Derived.LoopNIn
import Derived.LoopIn
import Derived.Test.YtbpnhiejmkeclaaDoorRanges
import Derived.Test.YtbpnhiejmkeclaaDoorTz
namespace Go.Proofs.YtbpnhiejmkeclaaDoor
open Go.RowKit Go.Shelf
attribute [local go_sem] Oper.semAt_some
/-- The blocks of ks lie as they lay. -/
def KeepsAt (ks : Nat → Prop) (A B : World) : Prop := ∀ k, ks k → B.heap[k]? = A.heap[k]?
theorem KeepsAt.refl (ks : Nat → Prop) (A : World) : KeepsAt ks A A := fun _ _ => rfl
theorem KeepsAt.trans {ks : Nat → Prop} {A B C : World} (h : KeepsAt ks A B) (k : KeepsAt ks B C) : KeepsAt ks A C := fun i hi => (k i hi).trans (h i hi)
theorem KeepsAt.cell {ks : Nat → Prop} {A B : World} (h : KeepsAt ks A B) {p : Addr} (hp : ks p.block) : B.cell? p = A.cell? p := World.cell?_of_block (w := A) (h p.block hp)
theorem KeepsAt.blk {ks : Nat → Prop} {A B : World} {k : Nat} {s : WSet} (h : KeepsAt ks A B) (hs : Blk A k s) (hp : ks k) : Blk B k s := (h k hp).trans hs
theorem KeepsAt.alloc {ks : Nat → Prop} {A B : World} (h : KeepsAt ks A B) (hk : ∀ k, ks k → k < B.heap.size) (o : Obj) : KeepsAt ks A (B.alloc o) := fun k hp => (Below.heap_alloc _ _ _ (hk k hp)).trans (h k hp)
theorem KeepsAt.setCell {ks : Nat → Prop} {A B : World} (h : KeepsAt ks A B) {p : Addr} (hp : ¬ ks p.block) (u : Value) : KeepsAt ks A (B.setCell p u) := fun k hk => (Below.heap_setCell _ _ _ _ (fun e => hp (e ▸ hk))).trans (h k hk)
theorem KeepsAt.below {ks : Nat → Prop} {A B : World} {n : Nat} (h : Below n A B) (hk : ∀ k, ks k → k < n) : KeepsAt ks A B := fun k hp => h.block k (hk k hp)
theorem keepsAt_b {ks : Nat → Prop} {w : World} (hk : ∀ k, ks k → k < w.heap.size) (W : World) (l : Nat) (o o' : Obj) (hl : w.heap.size ≤ l) (h : W.heap[l]? = some o) (_ : o.isCells = false) (_ : o.isWalk = false) : KeepsAt ks W (W.putObj l o') :=
  fun k hp => (belowK_b (n₀ := w.heap.size) (Nat.le_refl _) W l o o' hl h ‹_› ‹_›).block k (hk k hp)
/-- The de Bruijn table lies in its variable. -/
def Tab (w : World) : Prop := ∀ j, j < 64 → w.cell? ⟨0, j, none⟩ = some (.int .u8 (Lib.deBruijn64tab.getD j 0))
theorem Tab.below {w w' : World} {n : Nat} (h : Tab w) (hb : Below n w w') (hn : 0 < n) : Tab w' := fun j hj => (hb.cell (p := ⟨0, j, none⟩) hn).trans (h j hj)
theorem Tab.keeps {ks : Nat → Prop} {w w' : World} (h : Tab w) (hb : KeepsAt ks w w') (hn : ks 0) : Tab w' := fun j hj => (hb.cell (p := ⟨0, j, none⟩) hn).trans (h j hj)
theorem bits_and_u64_nat' (a b : Nat) (ha : a < 18446744073709551616) (hb : b < 18446744073709551616) : bits .and .u64 (a : Int) (b : Int) = ((a &&& b : Nat) : Int) := by
  have := bits_and (BitVec.ofNat 64 a) (BitVec.ofNat 64 b)
  rw [BitVec.toNat_and, BitVec.toNat_ofNat, BitVec.toNat_ofNat, Nat.mod_eq_of_lt (by omega), Nat.mod_eq_of_lt (by omega)] at this
  exact this
theorem tz_key (x a : Nat) (hx : x < 18446744073709551616) (hx0 : x ≠ 0) (hlow : x &&& (18446744073709551616 - x) = a) :
    IntKind.u64.wrap (bits BinOp.and IntKind.u64 (x : Int) (IntKind.u64.wrap (-(x : Int))) * 285870213051353865) / 288230376151711744 = ((a * 285870213051353865 % 18446744073709551616 / 288230376151711744 : Nat) : Int) := by
  have e1 : IntKind.u64.wrap (-(x : Int)) = ((18446744073709551616 - x : Nat) : Int) := by rw [IntKind.wrap_u64]; omega
  rw [e1, bits_and_u64_nat' x _ hx (by omega), hlow, IntKind.wrap_u64]
  omega
set_option maxHeartbeats 1000000 in
theorem tz_core (x : Int) (k idx : Nat) (w : World) (hx0 : (x == 0) = false)
    (key : IntKind.u64.wrap (bits BinOp.and IntKind.u64 x (IntKind.u64.wrap (-x)) * 285870213051353865) / 288230376151711744 = (idx : Int))
    (hi : idx < 64) (hk : k < 64) (hcell : w.cell? ⟨0, idx, none⟩ = some (.int .u8 k)) :
    Calls Tryd.prog 51 #[.int .u64 x] w fun e w' => e = .returned (.int .i64 k) ∧ w' = w := by
  go_enter Tryd.func51, Tryd.ntmps51
  go_wp2_with (simp only [key])
  go_ret
  exact ⟨rfl, rfl⟩
theorem tz_any (x : BitVec 64) (h0 : x ≠ 0#64) (w : World) (hT : Tab w) :
    Calls Tryd.prog 51 #[.int .u64 x.toNat] w fun e w' => e = .returned (.int .i64 (tz x)) ∧ w = w' := by
  have hx : x.toNat ≠ 0 := fun e => h0 (BitVec.eq_of_toNat_eq (by simpa using e))
  obtain ⟨hlow, hk⟩ := Lib.lowest_bit 64 x.toNat hx x.isLt
  obtain ⟨hi, htab⟩ := Lib.deBruijn64_at _ hk
  have hcell := hT _ hi
  rw [htab] at hcell
  have hlt := x.isLt
  exact (tz_core x.toNat (tz x) _ w (by simp; omega) (tz_key x.toNat _ (by omega) hx hlow) hi hk hcell).mono fun _ _ ⟨he, hw⟩ => ⟨he, hw.symm⟩
set_option maxHeartbeats 1000000 in
theorem bytesFrom_any (a b c d : BitVec 64) (from_ : Int) (w : World) :
    Calls Tryd.prog 43 #[.agg #[.int .u64 a.toNat, .int .u64 b.toNat, .int .u64 c.toNat, .int .u64 d.toNat], .int .i64 from_] w fun e w' => e = .returned (.func (.func 50) #[] #[.pointer (some ⟨w.heap.size + 1, 0, none⟩), .pointer (some ⟨w.heap.size, 0, none⟩)]) ∧ w' = (w.alloc (.cells #[.int .u64 a.toNat, .int .u64 b.toNat, .int .u64 c.toNat, .int .u64 d.toNat] 24)).alloc (.cells #[.int .i64 (from_.toNat : Int)] 3) := by
  go_enter Tryd.func43, Tryd.ntmps43
  go_wp2
  · go_ret
    have h : from_ < 0 := by assumption
    exact ⟨rfl, by rw [show max from_ 0 = 0 by omega]⟩
  · go_ret
    have h : 0 ≤ from_ := by assumption
    exact ⟨rfl, by rw [show max from_ 0 = from_ by omega]⟩
set_option maxRecDepth 100000 in
set_option maxHeartbeats 2000000 in
/-- The closure of bytesFrom: the bytes of s from f on, for every loop body that keeps the table, the set and the start. -/
theorem bytes1_in (n : Nat) (hn : 1 ≤ n) (l Bf Bs f : Nat) (ks : Nat → Prop) (hf : (f : Int) ≤ 9223372036854775807) (s : WSet) (hBf : ks Bf) (hBs : ks Bs) (h0n : ks 0) (J Jx : List Nat → World → Prop)
    (hY : ∀ pre x W, J pre W → pre.length < 256 → YieldAt Fence.wide (n - 1) Tryd.prog l #[.int .i64 (x : Nat)] W fun e W' =>
      (e = .returned (.bool true) ∧ J (pre ++ [x]) W' ∧ KeepsAt ks W W') ∨ (e = .returned (.bool false) ∧ Jx (pre ++ [x]) W'))
    (W : World) (hT : Tab W) (hs : Blk W Bs s) (hfc : W.cell? ⟨Bf, 0, none⟩ = some (.int .i64 (f : Int))) (h0 : J [] W) :
    CallsIn Fence.wide n Tryd.prog 50 #[.func (.yield l) #[] #[], .pointer (some ⟨Bf, 0, none⟩), .pointer (some ⟨Bs, 0, none⟩)] W fun e W' => (∃ v, e = .returned v) ∧
      ((∃ ys, ys = upto s f 256 ∧ J ys W') ∨ (∃ pre, (∃ k, pre ++ k = upto s f 256) ∧ Jx pre W')) := by
  refine callsIn_of_wp Tryd.func50 rfl trivial ?_ rfl
  simp only [Tryd.ntmps50, List.size_toArray, List.length_cons, List.length_nil, Nat.reduceAdd, Nat.reduceSub, Array.replicate_succ, Array.replicate_zero, List.push_toArray, List.append_toArray, List.nil_append, List.cons_append]
  gi_wp2
  gi_loopw [7] (fun i wr => ∃ k : Nat, k ≤ 4 ∧ i = .int .i64 k ∧ J (upto s f (64 * k)) wr ∧ KeepsAt ks W wr)
    (fun i _ => 4 - (intOf i).toNat)
  case atStart => exact ⟨0, by omega, rfl, h0, KeepsAt.refl _ _⟩
  case round =>
    obtain ⟨k, hk, rfl, hJ, hB⟩ := hrel
    by_cases hlt : k < 4
    · have hw := (hB.blk hs hBs).cell k hlt
      have hfr := (hB.cell (p := ⟨Bf, 0, none⟩) hBf).trans hfc
      have hst := upto_start s f k
      have hk4 : decide ((k : Int) < 4) = true := by simp; omega
      by_cases hfk : 64 * k ≤ f
      all_goals
        first
          | (have q1 : 64 * (k : Int) ≤ (f : Int) := by omega
             have q2 : 0 ≤ (f : Int) - 64 * (k : Int) := by omega
             gi_wp2
             rw [hiW_word])
          | (have q1 : (f : Int) < 64 * (k : Int) := by omega
             have q2 : (f : Int) - 64 * (k : Int) < 0 := by omega
             gi_wp2
             skip)
        gi_loopw [6] (fun v wr' => ∃ m : Nat, (f ≤ 64 * k + m ∨ m = 64) ∧ m ≤ 64 ∧ v = .int .u64 ((hiW (s.w k) m).toNat : Int) ∧ J (upto s f (64 * k + m)) wr' ∧ KeepsAt ks W wr')
          (fun v _ => (intOf v).toNat)
        case atStart =>
          first
            | (refine ⟨min (f - 64 * k) 64, ?_, ?_, rfl, ?_, hB⟩
               · omega
               · omega
               · rw [hst]; exact hJ)
            | (refine ⟨0, ?_, ?_, ?_, hJ, hB⟩
               · omega
               · omega
               · rw [hiW_zero])
        case round =>
          obtain ⟨m, hfm, hm, rfl, hJm, hBm⟩ := hrel
          by_cases hw0 : hiW (s.w k) m = 0#64
          · have ht : (((hiW (s.w k) m).toNat : Int) != 0) = false := by rw [hw0]; rfl
            have HE := Lib.hid (upto_end s f k m hm hw0)
            gi_wp2
            go_roundw
            case rel => exact ⟨k + 1, by omega, by go_num, by rw [HE.out]; exact hJm, hBm⟩
            case measure => simp [intOf]; omega
          · have ht : (((hiW (s.w k) m).toNat : Int) != 0) = true := by
              have hx : (hiW (s.w k) m).toNat ≠ 0 := fun e => hw0 (BitVec.eq_of_toNat_eq (by simpa using e))
              simp; omega
            have hfm' : f ≤ 64 * k + m := by
              rcases hfm with h | h
              · exact h
              · exact (hw0 (by rw [h, hiW_64])).elim
            obtain ⟨s1, s2, s3, s4⟩ := upto_step s f k m hfm' hm hw0
            have hTr : Tab _ := hT.keeps hBm h0n
            have hlen := upto_length s f (64 * k + m)
            have hcl := clear_lt _ hw0
            obtain ⟨fn, tmps, assign, body, hy, hR⟩ := hY _ (64 * k + tz (hiW (s.w k) m)) _ hJm (by omega)
            have S3 := Lib.hid s3
            have S4 := Lib.hid s4
            have HC := Lib.hid hcl
            have HT := Lib.hid hTr
            clear s3 s4 hcl hTr
            rw [show (((64 * k + tz (hiW (s.w k) m) : Nat)) : Int) = 64 * (k : Int) + (tz (hiW (s.w k) m) : Int) by omega] at hy
            gi_wp2_with (refine ⟨trivial, ?_⟩; gi_at_call 51; refine (callsIn_wide.2 (tz_any _ hw0 _ HT.out)).mono ?_; rintro e w' ⟨rfl, rfl⟩)
            refine hR.mono ?_
            rintro e W3 (⟨rfl, hJ3, hk3⟩ | ⟨rfl, hJx3⟩)
            · gi_wp2
              go_roundw
              case rel =>
                rw [sub_one_word, bits_and, S4.out]
                exact ⟨_, .inl (by omega), by omega, rfl, by rw [show 64 * k + (tz (hiW (s.w k) m) + 1) = 64 * k + tz (hiW (s.w k) m) + 1 by omega, S3.out]; exact hJ3, hBm.trans hk3⟩
              case measure =>
                rw [sub_one_word, bits_and]
                simp only [intOf, Int.toNat_natCast]
                exact HC.out
            · gi_wp2
              refine bodyPost_ret (results_none rfl _ _ _) rfl ?_
              refine ⟨⟨_, rfl⟩, .inr ⟨_, ?_, hJx3⟩⟩
              rw [← S3.out]
              obtain ⟨l', hl'⟩ := upto_prefix s f (64 * k + tz (hiW (s.w k) m) + 1) (256 - (64 * k + tz (hiW (s.w k) m) + 1))
              exact ⟨l', by rw [hl']; congr 1; omega⟩
    · obtain rfl : k = 4 := by omega
      gi_wp2
      go_end0
      exact ⟨⟨_, rfl⟩, .inl ⟨_, rfl, hJ⟩⟩
theorem bytes_stops (n : Nat) (hn : 1 ≤ n) (Bf Bs f : Nat) (ks : Nat → Prop) (hf : (f : Int) ≤ 9223372036854775807) (s : WSet) (hBf : ks Bf) (hBs : ks Bs) (h0n : ks 0) (w : World)
    (hk : ∀ k, ks k → k < w.heap.size) (hT : Tab w) (hs : Blk w Bs s) (hfc : w.cell? ⟨Bf, 0, none⟩ = some (.int .i64 (f : Int))) :
    SeqStopsK Fence.wide n Tryd.prog 50 #[.pointer (some ⟨Bf, 0, none⟩), .pointer (some ⟨Bs, 0, none⟩)] (fun x : Nat => #[Value.int .i64 (x : Int)]) (KeepsAt ks) (fun ys => ys = upto s f 256) (fun pre => ∃ k, pre ++ k = upto s f 256) 256 w :=
  fun l J Jx W hW _ _ hY h0 => by
    have hK : KeepsAt ks w W := KeepsAt.below hW hk
    exact bytes1_in n hn l Bf Bs f ks hf s hBf hBs h0n J Jx hY W (hT.keeps hK h0n) (hK.blk hs hBs) ((hK.cell (p := ⟨Bf, 0, none⟩) hBf).trans hfc) h0
end Go.Proofs.YtbpnhiejmkeclaaDoor
