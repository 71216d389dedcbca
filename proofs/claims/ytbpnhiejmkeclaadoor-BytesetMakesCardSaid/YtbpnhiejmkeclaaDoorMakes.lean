/-
  The law BytesetMakes returns true, for every slice of bytes, of ranges and of sets, nil or not. The table of math/bits must lie in its variable.
-/
import Derived.Test.YtbpnhiejmkeclaaDoorOnesLaw
import Derived.Test.YtbpnhiejmkeclaaDoorCells
namespace Go.Proofs.YtbpnhiejmkeclaaDoor
open Go.RowKit
attribute [local go_sem] eq_sets w_0 w_1 w_2 w_3
theorem infoR : (Tryd.prog.info? 42).map (fun i => (i.zero, i.size, i.bytes)) = some (some (.agg #[.int .u8 0, .int .u8 0]), 2, 2) := by kernel_rfl
theorem infoS : (Tryd.prog.info? 24).map (fun i => (i.zero, i.size, i.bytes)) = some (some (.agg #[.int .u64 0, .int .u64 0, .int .u64 0, .int .u64 0]), 4, 32) := by kernel_rfl
theorem below_new (w : World) (o : Obj) : Below w.heap.size w (w.alloc o) := by go_grown
theorem rangesR_shape (lo hi : Nat → Nat) (n : Nat) : ∃ (r0 r1 r2 r3 : BitVec 64) (x : Nat), Hid (rangesR lo hi n = .tuple #[.agg #[.int .u64 r0.toNat, .int .u64 r1.toNat, .int .u64 r2.toNat, .int .u64 r3.toNat], .int .i64 (x : Int)]) := by
  unfold rangesR
  cases badR lo hi n
  · exact ⟨(rangesTo lo hi n).a, (rangesTo lo hi n).b, (rangesTo lo hi n).c, (rangesTo lo hi n).d, 0, Lib.hid rfl⟩
  · exact ⟨0, 0, 0, 0, 8, Lib.hid rfl⟩
theorem setsAt_of {w : World} {b n : Nat} {F : Nat → WSet} (h : CellsIn w (some ⟨b, 0, none⟩) (n * 4) (setC F)) : SetsAt w b 0 n F := fun j hj i hi => by
  have h2 := h.cell (j * 4 + i) (by omega)
  have q1 : (j * 4 + i) % 4 = i := by omega
  have q2 : (j * 4 + i) / 4 = j := by omega
  rw [Nat.zero_add] at h2 ⊢
  rw [h2]
  simp only [setC, q1, q2]
theorem le_maxLen {n : Nat} (h : n ≤ 40) : n ≤ maxLen := by unfold maxLen; omega
set_option maxRecDepth 100000 in
set_option maxHeartbeats 4000000 in
theorem makes_law (p1 : Option Addr) (n1 c1 : Nat) (f : Nat → Nat) (p2 : Option Addr) (n2 c2 : Nat) (lo hi : Nat → Nat) (p3 : Option Addr) (n3 c3 : Nat) (F : Nat → WSet)
    (w : World) (hT : Tab w) (h0w : 0 < w.heap.size)
    (hp1 : p1 = none → n1 = 0 ∧ c1 = 0) (hf : ∀ j, j < n1 → f j < 256) (hC1 : CellsIn w p1 (n1 * 1) (byteC f))
    (hp2 : p2 = none → n2 = 0 ∧ c2 = 0) (hl : ∀ j, j < n2 → lo j < 256 ∧ hi j < 256) (hC2 : CellsIn w p2 (n2 * 2) (rangeC lo hi))
    (hp3 : p3 = none → n3 = 0 ∧ c3 = 0) (hC3 : CellsIn w p3 (n3 * 4) (setC F)) :
    Calls Tryd.prog 4 #[.slice p1 n1 c1, .slice p2 n2 c2, .slice p3 n3 c3] w fun e w' => e = .returned (.bool true) ∧ Below w.heap.size w w' := by
  obtain ⟨i0, hi1, hz1, hs1, hy1⟩ := info_parts info5
  obtain ⟨i2, hi2, hz2, hs2, hy2⟩ := info_parts infoR
  obtain ⟨i3, hi3, hz3, hs3, hy3⟩ := info_parts infoS
  by_cases hshort : n1 ≤ 40 ∧ n2 ≤ 40 ∧ n3 ≤ 40
  · obtain ⟨m1, m2, m3⟩ := hshort
    have d1 : decide (40 < (n1 : Int)) = false := decide_eq_false (by omega)
    have d2 : decide (40 < (n2 : Int)) = false := decide_eq_false (by omega)
    have d3 : decide (40 < (n3 : Int)) = false := decide_eq_false (by omega)
    have Hf := Lib.hid hf
    have Hl := Lib.hid hl
    have K1 := Lib.hid hC1
    have K2 := Lib.hid hC2
    have K3 := Lib.hid hC3
    have P1 := Lib.hid hp1
    have P2 := Lib.hid hp2
    have P3 := Lib.hid hp3
    clear hf hl hC1 hC2 hC3 hp1 hp2 hp3
    go_enter Tryd.func4, Tryd.ntmps4
    go_wp2_with (first
      | (at_builtin; refine wpList_append_copy _ rfl _ _ 31 rfl 5 i0 (.int .u8 0) 1 1 Tryd.underlying31 hi1 hz1 hs1 hy1 rfl (by decide) w.heap.size rfl (heap_alloc_new w _) p1 n1 c1 (byteC f) rfl P1.out (K1.out.below (below_new w _) (Nat.le_refl _)) (fun j _ => rfl) m1 (by decide) ?_; intro q1 k1 w1 hX1 hq1 hb1; have hB1 : Below w.heap.size w w1 := (below_new w _).trans (hb1.mono (Nat.le_refl _)); replace hX1 := Lib.hid hX1; clear hb1)
      | (at_builtin; refine wpList_append_copy _ rfl _ _ 35 rfl 42 i2 (.agg #[.int .u8 0, .int .u8 0]) 2 2 Tryd.underlying35 hi2 hz2 hs2 hy2 rfl (by decide) w1.heap.size rfl (heap_alloc_new w1 _) p2 n2 c2 (rangeC lo hi) rfl P2.out ((K2.out.below hB1 (Nat.le_refl _)).below (below_new w1 _) (Nat.le_refl _)) (fun j _ => rfl) m2 (by decide) ?_; intro q2 k2 w2 hX2 hq2 hb2; have hB2 : Below w1.heap.size w1 w2 := (below_new w1 _).trans (hb2.mono (Nat.le_refl _)); replace hX2 := Lib.hid hX2; clear hb2)
      | (at_builtin; refine wpList_append_copy _ rfl _ _ 36 rfl 24 i3 (.agg #[.int .u64 0, .int .u64 0, .int .u64 0, .int .u64 0]) 4 32 Tryd.underlying36 hi3 hz3 hs3 hy3 rfl (by decide) w2.heap.size rfl (heap_alloc_new w2 _) p3 n3 c3 (setC F) rfl P3.out (((K3.out.below hB1 (Nat.le_refl _)).below hB2 (Nat.le_refl _)).below (below_new w2 _) (Nat.le_refl _)) (fun j _ => rfl) m3 (by decide) ?_; intro q3 k3 w3 hX3 hq3 hb3; have hB3 : Below w2.heap.size w2 w3 := (below_new w2 _).trans (hb3.mono (Nat.le_refl _)); replace hX3 := Lib.hid hX3; clear hb3))
    have hB12 := hB1.trans (hB2.mono hB1.size)
    have hB := hB12.trans (hB3.mono hB12.size)
    have z2 := hB2.size
    have z3 := hB3.size
    have J1 := Lib.hid (K1.out.below hB (Nat.le_refl _))
    have J2 := Lib.hid (K2.out.below hB (Nat.le_refl _))
    have J3 := Lib.hid (K3.out.below hB (Nat.le_refl _))
    have X1 := Lib.hid ((hX1.out.below hB2 (Nat.le_refl _)).below hB3 (Nat.le_refl _))
    have X2 := Lib.hid (hX2.out.below hB3 (Nat.le_refl _))
    have X3 := hX3
    have hT3 := hT.below hB h0w
    have h03 := Nat.lt_of_lt_of_le h0w hB.size
    have g1 : q1 < w3.heap.size := by omega
    have g2 : q2 < w3.heap.size := by omega
    clear K1 K2 K3 hX1 hX2 hX3 hB1 hB2 hB3 hB12 z2 z3
    obtain ⟨r0, r1, r2, r3, x, hr⟩ := rangesR_shape lo hi n2
    refine (ranges_any (some ⟨q2, 0, none⟩) n2 k2 lo hi (le_maxLen m2) _ (rangesIn_of Hl.out X2.out)).mono ?_
    rintro y w4 ⟨rfl, h5⟩
    rw [hr.out]
    have bA := Blk.new w4 ⟨r0, r1, r2, r3⟩
    have h5 := h5.alloc h5.size (.cells #[.int .u64 r0.toNat, .int .u64 r1.toNat, .int .u64 r2.toNat, .int .u64 r3.toNat] 24)
    go_wp2_with fail
    obtain ⟨A, hA⟩ : ∃ A, w4.heap.size = A := ⟨_, rfl⟩
    obtain ⟨w5, hw5⟩ : ∃ W, w4.alloc (.cells #[.int .u64 r0.toNat, .int .u64 r1.toNat, .int .u64 r2.toNat, .int .u64 r3.toNat] 24) = W := ⟨_, rfl⟩
    rw [hA] at bA ⊢
    rw [hw5] at bA h5 ⊢
    clear hA hw5
    refine (refRanges_any p2 n2 c2 lo hi (le_maxLen m2) _ (rangesIn_of Hl.out (J2.out.below h5 (Nat.le_refl _)))).mono ?_
    rintro y w6 ⟨rfl, hb⟩
    rw [hr.out]
    have bA := (bA.below hb bA.lt).alloc (.cells #[.int .u64 r0.toNat, .int .u64 r1.toNat, .int .u64 r2.toNat, .int .u64 r3.toNat] 24)
    have bB := Blk.new w6 ⟨r0, r1, r2, r3⟩
    have h5 := h5.trans (hb.mono h5.size)
    have h5 := h5.alloc h5.size (.cells #[.int .u64 r0.toNat, .int .u64 r1.toNat, .int .u64 r2.toNat, .int .u64 r3.toNat] 24)
    clear hb
    go_upto_region 6 with fail
    obtain ⟨B, hBe⟩ : ∃ A, w6.heap.size = A := ⟨_, rfl⟩
    obtain ⟨w7, hw7⟩ : ∃ W, w6.alloc (.cells #[.int .u64 r0.toNat, .int .u64 r1.toNat, .int .u64 r2.toNat, .int .u64 r3.toNat] 24) = W := ⟨_, rfl⟩
    rw [hBe] at bB ⊢
    rw [hw7] at bA bB h5 ⊢
    clear hBe hw7
    obtain ⟨a0, a1, a2, a3, ho⟩ : ∃ a0 a1 a2 a3, Hid (addTo .empty f n1 = ⟨a0, a1, a2, a3⟩) := ⟨_, _, _, _, Lib.hid rfl⟩
    obtain ⟨b0, b1, b2, b3, hu⟩ : ∃ a0 a1 a2 a3, Hid (orTo .empty F n3 = ⟨a0, a1, a2, a3⟩) := ⟨_, _, _, _, Lib.hid rfl⟩
    obtain ⟨e0, e1, e2, e3, hv⟩ : ∃ a0 a1 a2 a3, Hid (andTo WSet.empty.not F n3 = ⟨a0, a1, a2, a3⟩) := ⟨_, _, _, _, Lib.hid rfl⟩
    go_cut [77] (fun p wx => p = .bool false ∧ Below w3.heap.size w3 wx)
    case first =>
      go_wp2_with fail
      refine (of_any q1 0 n1 k1 f Hf.out (le_maxLen m1) _ (Nat.lt_of_lt_of_le g1 h5.size) (fun j hj => (X1.out.below h5 (Nat.le_refl _)).cell j (by omega))).mono ?_
      rintro y w8 ⟨rfl, hb⟩
      rw [ho.out]
      have bA := bA.below hb bA.lt
      have bB := bB.below hb bB.lt
      have h5 := h5.trans (hb.mono h5.size)
      clear hb
      go_wp2_with fail
      refine (refOf_any p1 n1 c1 f (le_maxLen m1) _ (bytesIn_of Hf.out (J1.out.below h5 (Nat.le_refl _)))).mono ?_
      rintro y w9 ⟨rfl, hb⟩
      rw [ho.out]
      have bA := bA.below hb bA.lt
      have bB := bB.below hb bB.lt
      have h5 := h5.trans (hb.mono h5.size)
      clear hb
      obtain ⟨ca0, ca1, ca2, ca3⟩ := bA.cells
      obtain ⟨cb0, cb1, cb2, cb3⟩ := bB.cells
      go_wp2_with fail
      clear ca0 ca1 ca2 ca3 cb0 cb1 cb2 cb3
      refine (union_any q3 0 n3 k3 F (le_maxLen m3) _ (Nat.lt_of_lt_of_le hq3 h5.size) (setsAt_of (X3.out.below h5 (Nat.le_refl _)))).mono ?_
      rintro y w10 ⟨rfl, hb⟩
      rw [hu.out]
      have bA := bA.below hb bA.lt
      have bB := bB.below hb bB.lt
      have h5 := h5.trans (hb.mono h5.size)
      clear hb
      go_wp2_with fail
      refine (refUnion_any p3 n3 c3 F (le_maxLen m3) _ (setsIn_of (J3.out.below h5 (Nat.le_refl _)))).mono ?_
      rintro y w11 ⟨rfl, hb⟩
      rw [hu.out]
      have bA := bA.below hb bA.lt
      have bB := bB.below hb bB.lt
      have h5 := h5.trans (hb.mono h5.size)
      clear hb
      go_wp2_with fail
      refine (common_any q3 0 n3 k3 F (le_maxLen m3) _ (Nat.lt_of_lt_of_le hq3 h5.size) (setsAt_of (X3.out.below h5 (Nat.le_refl _)))).mono ?_
      rintro y w12 ⟨rfl, hb⟩
      rw [hv.out]
      have bA := bA.below hb bA.lt
      have bB := bB.below hb bB.lt
      have h5 := h5.trans (hb.mono h5.size)
      clear hb
      go_wp2_with fail
      refine (refCommon_any p3 n3 c3 F (le_maxLen m3) _ (setsIn_of (J3.out.below h5 (Nat.le_refl _)))).mono ?_
      rintro y w13 ⟨rfl, hb⟩
      rw [hv.out]
      have bA := bA.below hb bA.lt
      have bB := bB.below hb bB.lt
      have h5 := h5.trans (hb.mono h5.size)
      clear hb
      go_wp2_with fail
      go_meet
      exact ⟨rfl, h5⟩
    case rest =>
    clear bA bB h5
    obtain ⟨rfl, h5⟩ := hcut
    clear hr ho hu hv
    go_wp2_with fail
    go_loopw [14] (fun i wr => ∃ k : Nat, k ≤ n2 ∧ i = .int .i64 k ∧ Below w3.heap.size w3 wr)
      (fun i _ => n2 - (intOf i).toNat)
    case atStart => exact ⟨0, Nat.zero_le _, rfl, h5⟩
    case round =>
      obtain ⟨k, hk, rfl, h6⟩ := hrel
      by_cases hlt : k < n2
      · have d4 : decide ((k : Int) < (n2 : Int)) = true := decide_eq_true (by omega)
        have hkb : (k : Int) < (n2 : Int) := by omega
        obtain ⟨-, -, b1, o1, e1, -, ca0, ca1⟩ := rangesIn_of Hl.out (X2.out.below h6 (Nat.le_refl _)) k hlt
        obtain ⟨-, -, b2, o2, rfl, -, cb0, cb1⟩ := rangesIn_of Hl.out (J2.out.below h6 (Nat.le_refl _)) k hlt
        injection e1 with e1
        injection e1 with e2 e3
        subst e2 e3
        rw [Nat.zero_add] at ca0 ca1
        obtain ⟨x1, hx1⟩ : ∃ x, lo k = x := ⟨_, rfl⟩
        obtain ⟨y1, hy1⟩ : ∃ x, hi k = x := ⟨_, rfl⟩
        rw [hx1] at ca0 cb0
        rw [hy1] at ca1 cb1
        clear hx1 hy1
        go_upto_region 11 with fail
        go_region
        all_goals
          go_wp2_with fail
          go_roundw
          case rel => exact ⟨k + 1, by omega, by go_num, h6.drew⟩
          case measure => simp [intOf]; omega
      · obtain rfl : k = n2 := by omega
        clear h5
        go_wp2_with fail
        go_loopw [15] (fun i wr => ∃ k : Nat, k ≤ n3 ∧ i = .int .i64 k ∧ Below w3.heap.size w3 wr)
          (fun i _ => n3 - (intOf i).toNat)
        case atStart => exact ⟨0, Nat.zero_le _, rfl, h6⟩
        case round =>
          clear h6
          obtain ⟨j, hj, rfl, h6⟩ := hrel
          by_cases hlt : j < n3
          · have d4 : decide ((j : Int) < (n3 : Int)) = true := decide_eq_true (by omega)
            have hjb : (j : Int) < (n3 : Int) := by omega
            have S1 := setsAt_of (X3.out.below h6 (Nat.le_refl _))
            obtain ⟨b2, o2, rfl, -, S2⟩ := setsIn_of (J3.out.below h6 (Nat.le_refl _)) j hlt
            obtain ⟨⟨s0, s1, s2, s3⟩, hs⟩ : ∃ s, F j = s := ⟨_, rfl⟩
            have ca0 := S1 j hlt 0 (by omega)
            have ca1 := S1 j hlt 1 (by omega)
            have ca2 := S1 j hlt 2 (by omega)
            have ca3 := S1 j hlt 3 (by omega)
            have cb0 := S2 0 (by omega)
            have cb1 := S2 1 (by omega)
            have cb2 := S2 2 (by omega)
            have cb3 := S2 3 (by omega)
            rw [hs] at ca0 ca1 ca2 ca3 cb0 cb1 cb2 cb3
            rw [Nat.zero_add] at ca0 ca1 ca2 ca3
            rw [Nat.add_zero] at ca0 cb0
            clear S1 S2 hs
            go_upto_region 16 with fail
            go_region
            all_goals
              go_wp2_with fail
              go_roundw
              case rel => exact ⟨j + 1, by omega, by go_num, h6.drew⟩
              case measure => simp [intOf]; omega
          · obtain rfl : j = n3 := by omega
            obtain ⟨T, hT⟩ : ∃ T, Hid (((List.range n1).map fun j => UInt8.ofNat (f j)) = T) := ⟨_, Lib.hid rfl⟩
            have hcv1 := run_bytes_string (c := k1) (fun e => by cases e) Hf.out (X1.out.below h6 (Nat.le_refl _))
            have hcv2 := run_bytes_string (c := c1) P1.out Hf.out (J1.out.below h6 (Nat.le_refl _))
            rw [hT.out] at hcv1 hcv2
            have hT4 := hT3.below h6 h03
            have h04 := Nat.lt_of_lt_of_le h03 h6.size
            go_wp2_with fail
            refine (awake_any _ hT4 h04).mono ?_
            rintro y w9 ⟨rfl, hb⟩
            go_wp2_with fail
            go_ret
            exact ⟨rfl, (hB.trans (h6.mono hB.size)).trans (hb.mono (Nat.le_trans hB.size h6.size))⟩
  · go_enter Tryd.func4, Tryd.ntmps4
    by_cases e1 : n1 ≤ 40
    · have d1 : decide (40 < (n1 : Int)) = false := decide_eq_false (by omega)
      by_cases e2 : n2 ≤ 40
      · have d2 : decide (40 < (n2 : Int)) = false := decide_eq_false (by omega)
        have d3 : decide (40 < (n3 : Int)) = true := decide_eq_true (by omega)
        clear hshort e1 e2 hp1 hp2 hp3 hC1 hC2 hC3 hf hl
        go_wp2_with fail
        refine (awake_any _ hT h0w).mono ?_
        rintro y w9 ⟨rfl, hb⟩
        go_wp2_with fail
        go_ret
        exact ⟨rfl, hb⟩
      · have d2 : decide (40 < (n2 : Int)) = true := decide_eq_true (by omega)
        clear hshort e1 e2 hp1 hp2 hp3 hC1 hC2 hC3 hf hl
        go_wp2_with fail
        refine (awake_any _ hT h0w).mono ?_
        rintro y w9 ⟨rfl, hb⟩
        go_wp2_with fail
        go_ret
        exact ⟨rfl, hb⟩
    · have d1 : decide (40 < (n1 : Int)) = true := decide_eq_true (by omega)
      clear hshort e1 hp1 hp2 hp3 hC1 hC2 hC3 hf hl
      go_wp2_with fail
      refine (awake_any _ hT h0w).mono ?_
      rintro y w9 ⟨rfl, hb⟩
      go_wp2_with fail
      go_ret
      exact ⟨rfl, hb⟩
end Go.Proofs.YtbpnhiejmkeclaaDoor
