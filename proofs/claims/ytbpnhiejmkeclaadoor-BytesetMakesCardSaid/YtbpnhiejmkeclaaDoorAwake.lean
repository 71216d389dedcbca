/-
  The law text's own function awake returns true. The table of math/bits must lie in its variable.
-/
import Derived.Test.YtbpnhiejmkeclaaDoorParses
import Derived.Test.YtbpnhiejmkeclaaDoorText
import Derived.Test.YtbpnhiejmkeclaaDoorCount
namespace Go.Proofs.YtbpnhiejmkeclaaDoor
open Go.RowKit
attribute [local go_sem] eq_sets w_0 w_1 w_2 w_3
theorem k1 : setOf (bytesN ⟨#[97, 0, 255]⟩) = ⟨1#64, 8589934592#64, 0#64, 9223372036854775808#64⟩ := by decide +kernel
theorem k2 : rangesTo (pairN 97 48) (pairN 122 57) 2 = ⟨287948901175001088#64, 576460743713488896#64, 0#64, 0#64⟩ := by decide +kernel
theorem k3 : countOf ⟨1#64, 8589934592#64, 0#64, 9223372036854775808#64⟩ = 3 := by decide +kernel
theorem k4 : (⟨((textOf ⟨287948901175001088#64, 576460743713488896#64, 0#64, 0#64⟩).map UInt8.ofNat).toArray⟩ : ByteArray) = ⟨#[48, 45, 57, 97, 45, 122]⟩ := by
  rw [show textOf ⟨287948901175001088#64, 576460743713488896#64, 0#64, 0#64⟩ = [48, 45, 57, 97, 45, 122] by decide +kernel]; rfl
theorem k5 : setOf (bytesN ⟨#[97, 90, 49]⟩) = ⟨562949953421312#64, 8657043456#64, 0#64, 0#64⟩ := by decide +kernel
theorem k6 : setOf (bytesN ⟨#[49, 65, 90, 97, 122]⟩) = ⟨562949953421312#64, 288230384808755202#64, 0#64, 0#64⟩ := by decide +kernel
theorem k7 : (WSet.mk 562949953421312#64 8657043456#64 0#64 0#64).fold = ⟨562949953421312#64, 288230384808755202#64, 0#64, 0#64⟩ := by decide +kernel
theorem k8 : setOf (bytesN ⟨#[97, 98, 99, 120]⟩) = ⟨0#64, 72057654167470080#64, 0#64, 0#64⟩ := by decide +kernel
theorem k9 : parseOf [97, 45, 99, 120] = .ok ⟨0#64, 72057654167470080#64, 0#64, 0#64⟩ := by kernel_rfl
set_option maxRecDepth 100000 in
set_option maxHeartbeats 4000000 in
theorem awake_any (w : World) (hT : Tab w) (h0w : 0 < w.heap.size) :
    Calls Tryd.prog 22 #[] w fun e w' => e = .returned (.bool true) ∧ Below w.heap.size w w' := by
  have hm : (3 : Nat) ≤ maxLen := by unfold maxLen; omega
  have hm5 : (5 : Nat) ≤ maxLen := by unfold maxLen; omega
  have hm4 : (4 : Nat) ≤ maxLen := by unfold maxLen; omega
  go_enter Tryd.func22, Tryd.ntmps22
  go_wp2_with fail
  refine (of_str ⟨#[97, 0, 255]⟩ hm _).mono ?_
  rintro e w1 ⟨rfl, hb1⟩
  rw [k1]
  have hz1 := hb1.size
  go_wp2_with fail
  have a1 : Blk (w1.alloc (.cells #[.int .u64 1, .int .u64 8589934592, .int .u64 0, .int .u64 9223372036854775808] 24)) w1.heap.size ⟨1#64, 8589934592#64, 0#64, 9223372036854775808#64⟩ := Blk.new w1 ⟨1#64, 8589934592#64, 0#64, 9223372036854775808#64⟩
  have hB1 : Below w.heap.size w (w1.alloc (.cells #[.int .u64 1, .int .u64 8589934592, .int .u64 0, .int .u64 9223372036854775808] 24)) := hb1.alloc hz1 _
  refine (ranges2_at 97 122 48 57 (by omega) (by omega) (by omega) (by omega) (w1.alloc (.cells #[.int .u64 1, .int .u64 8589934592, .int .u64 0, .int .u64 9223372036854775808] 24)) (w1.heap.size + 1) (by simp)).mono ?_
  rintro e w2 ⟨rfl, hb2⟩
  rw [k2]
  have a2 := a1.below hb2 (by simp)
  have hz2 : w1.heap.size < w2.heap.size := a2.lt
  have hB2 : Below w.heap.size w w2 := hB1.trans (hb2.mono (by simp; omega))
  clear hb1 hb2 a1 hB1
  obtain ⟨c0, c1, c2, c3⟩ := a2.cells
  go_wp2_with fail
  have r2 : Blk (w2.alloc (.cells #[.int .u64 287948901175001088, .int .u64 576460743713488896, .int .u64 0, .int .u64 0] 24)) w2.heap.size ⟨287948901175001088#64, 576460743713488896#64, 0#64, 0#64⟩ := Blk.new w2 ⟨287948901175001088#64, 576460743713488896#64, 0#64, 0#64⟩
  have hB2' : Below w.heap.size w (w2.alloc (.cells #[.int .u64 287948901175001088, .int .u64 576460743713488896, .int .u64 0, .int .u64 0] 24)) := hB2.alloc (by omega) _
  refine (count_any 1#64 8589934592#64 0#64 9223372036854775808#64 _).mono ?_
  rintro e w3 ⟨rfl, hb3⟩
  rw [k3]
  have r3 := r2.below hb3 (by simp)
  have hz3 : w2.heap.size < w3.heap.size := r3.lt
  have hB3 : Below w.heap.size w w3 := hB2'.trans (hb3.mono (by simp; omega))
  have hT3 : Tab w3 := hT.below hB3 h0w
  have h03 : 0 < w3.heap.size := by omega
  clear hb3 r2 hB2' a2 hB2 c0 c1 c2 c3
  obtain ⟨c0, c1, c2, c3⟩ := r3.cells
  go_wp2_with fail
  refine (text_any 287948901175001088#64 576460743713488896#64 0#64 0#64 _ hT3 h03).mono ?_
  rintro e w4 ⟨rfl, hb4⟩
  rw [k4]
  have hz4 := hb4.size
  have hB4 : Below w.heap.size w w4 := hB3.trans (hb4.mono (by omega))
  clear hb4
  go_wp2_with fail
  refine (of_str ⟨#[97, 90, 49]⟩ hm _).mono ?_
  rintro e w5 ⟨rfl, hb5⟩
  rw [k5]
  have hz5 := hb5.size
  have hB5 : Below w.heap.size w w5 := hB4.trans (hb5.mono (by omega))
  clear hb5
  go_wp2_with fail
  refine (fold_any 562949953421312#64 8657043456#64 0#64 0#64 _).mono ?_
  rintro e w6 ⟨rfl, hb6⟩
  rw [k7]
  have hz6 := hb6.size
  have hB6 : Below w.heap.size w w6 := hB5.trans (hb6.mono (by omega))
  clear hb6
  go_wp2_with fail
  refine (of_str ⟨#[49, 65, 90, 97, 122]⟩ hm5 _).mono ?_
  rintro e w7 ⟨rfl, hb7⟩
  rw [k6]
  have hz7 := hb7.size
  have hB7 : Below w.heap.size w w7 := hB6.trans (hb7.mono (by omega))
  clear hb7
  go_wp2_with fail
  refine (of_str ⟨#[97, 98, 99, 120]⟩ hm4 _).mono ?_
  rintro e w8 ⟨rfl, hb8⟩
  rw [k8]
  have hz8 := hb8.size
  have hB8 : Below w.heap.size w w8 := hB7.trans (hb8.mono (by omega))
  clear hb8
  go_wp2_with fail
  refine (parses_ok [97, 45, 99, 120] (by simp) 0#64 72057654167470080#64 0#64 0#64 k9 _).mono ?_
  rintro e w9 ⟨rfl, hb9⟩
  have hB9 : Below w.heap.size w w9 := hB8.trans (hb9.mono (by omega))
  clear hb9
  go_wp2_with fail
  go_ret
  exact ⟨rfl, hB9⟩
end Go.Proofs.YtbpnhiejmkeclaaDoor
