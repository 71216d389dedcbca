/-
  The law NumberKnown returns true.
-/
import Derived.Test.YtekbahpobhjobaaDoorNAwake
namespace Go.Proofs.YtekbahpobhjobaaDoor
open Go.RowKit
theorem n1 : decB false [48, 49, 50] 3 99 12 0 = true := by decide +kernel
theorem n2 : decB false [49, 48, 48] 3 99 0 2 = true := by decide +kernel
theorem n3 : decB false [] 3 99 0 3 = true := by decide +kernel
theorem n4 : decB false [45, 49] 3 99 0 3 = true := by decide +kernel
theorem n5 : decB false [49, 32] 3 99 0 3 = true := by decide +kernel
theorem n6 : decB false [48, 120, 49] 3 99 0 3 = true := by decide +kernel
theorem n7 : decB true [49, 48, 48] 3 255 0 2 = true := by decide +kernel
theorem n8 : decB true [103] 1 9 0 3 = true := by decide +kernel
theorem n9 : decB false [49, 56, 52, 52, 54, 55, 52, 52, 48, 55, 51, 55, 48, 57, 53, 53, 49, 54, 49, 53] 20 18446744073709551615 18446744073709551615 0 = true := by decide +kernel
theorem n10 : decB false [49, 56, 52, 52, 54, 55, 52, 52, 48, 55, 51, 55, 48, 57, 53, 53, 49, 54, 49, 54] 20 18446744073709551615 0 2 = true := by decide +kernel
theorem n11 : prefF false [49, 50, 97] = 2 := by decide +kernel
theorem n12 : prefF true [49, 50, 97] = 3 := by decide +kernel
theorem n13 : sameB [53, 44, 32, 48, 53, 32, 44, 53] 5 0 = true := by decide +kernel
theorem n14 : sameB [53, 44, 54] 0 7 = true := by decide +kernel
theorem n15 : sameB [53, 44] 0 3 = true := by decide +kernel
theorem n16 : sameB [53, 59, 53] 0 3 = true := by decide +kernel
set_option maxRecDepth 100000 in
set_option maxHeartbeats 4000000 in
theorem known_law (w : World) (hNT : NTab w) :
    Calls Tryd.prog 3 #[] w fun e w' => e = .returned (.bool true) ∧ Below w.heap.size w w' := by
  go_enter Tryd.func3, Tryd.ntmps3
  go_wp2_with fail
  refine (ldec_any [48, 49, 50] (by decide) 3 99 (by unfold U64; omega) 12 0 _).mono ?_
  rintro y v1 ⟨rfl, hb⟩
  rw [n1]
  have hB := hb
  clear hb
  go_wp2_with fail
  refine (ldec_any [49, 48, 48] (by decide) 3 99 (by unfold U64; omega) 0 2 _).mono ?_
  rintro y v2 ⟨rfl, hb⟩
  rw [n2]
  have hB := hB.trans (hb.mono hB.size)
  clear hb
  go_wp2_with fail
  refine (ldec_any [] (by decide) 3 99 (by unfold U64; omega) 0 3 _).mono ?_
  rintro y v3 ⟨rfl, hb⟩
  rw [n3]
  have hB := hB.trans (hb.mono hB.size)
  clear hb
  go_wp2_with fail
  refine (ldec_any [45, 49] (by decide) 3 99 (by unfold U64; omega) 0 3 _).mono ?_
  rintro y v4 ⟨rfl, hb⟩
  rw [n4]
  have hB := hB.trans (hb.mono hB.size)
  clear hb
  go_wp2_with fail
  refine (ldec_any [49, 32] (by decide) 3 99 (by unfold U64; omega) 0 3 _).mono ?_
  rintro y v5 ⟨rfl, hb⟩
  rw [n5]
  have hB := hB.trans (hb.mono hB.size)
  clear hb
  go_wp2_with fail
  refine (ldec_any [48, 120, 49] (by decide) 3 99 (by unfold U64; omega) 0 3 _).mono ?_
  rintro y v6 ⟨rfl, hb⟩
  rw [n6]
  have hB := hB.trans (hb.mono hB.size)
  clear hb
  go_wp2_with fail
  refine (lhex_any [49, 48, 48] (by decide) 3 255 (by unfold U64; omega) 0 2 _).mono ?_
  rintro y v7 ⟨rfl, hb⟩
  rw [n7]
  have hB := hB.trans (hb.mono hB.size)
  clear hb
  go_wp2_with fail
  refine (lhex_any [103] (by decide) 1 9 (by unfold U64; omega) 0 3 _).mono ?_
  rintro y v8 ⟨rfl, hb⟩
  rw [n8]
  have hB := hB.trans (hb.mono hB.size)
  clear hb
  go_wp2_with fail
  refine (ldec_any [49, 56, 52, 52, 54, 55, 52, 52, 48, 55, 51, 55, 48, 57, 53, 53, 49, 54, 49, 53] (by decide) 20 18446744073709551615 (by unfold U64; omega) 18446744073709551615 0 _).mono ?_
  rintro y v9 ⟨rfl, hb⟩
  rw [n9]
  have hB := hB.trans (hb.mono hB.size)
  clear hb
  go_wp2_with fail
  refine (ldec_any [49, 56, 52, 52, 54, 55, 52, 52, 48, 55, 51, 55, 48, 57, 53, 53, 49, 54, 49, 54] (by decide) 20 18446744073709551615 (by unfold U64; omega) 0 2 _).mono ?_
  rintro y v10 ⟨rfl, hb⟩
  rw [n10]
  have hB := hB.trans (hb.mono hB.size)
  clear hb
  go_wp2_with fail
  refine (prefix_any [49, 50, 97] (by decide) false _).mono ?_
  rintro y v11 ⟨rfl, hb⟩
  rw [n11]
  have hB := hB.trans (hb.mono hB.size)
  clear hb
  go_wp2_with fail
  refine (prefix_any [49, 50, 97] (by decide) true _).mono ?_
  rintro y v12 ⟨rfl, hb⟩
  rw [n12]
  have hB := hB.trans (hb.mono hB.size)
  clear hb
  go_wp2_with fail
  refine (lsame_any [53, 44, 32, 48, 53, 32, 44, 53] (by decide) 5 0 _).mono ?_
  rintro y v13 ⟨rfl, hb⟩
  rw [n13]
  have hB := hB.trans (hb.mono hB.size)
  clear hb
  go_wp2_with fail
  refine (lsame_any [53, 44, 54] (by decide) 0 7 _).mono ?_
  rintro y v14 ⟨rfl, hb⟩
  rw [n14]
  have hB := hB.trans (hb.mono hB.size)
  clear hb
  go_wp2_with fail
  refine (lsame_any [53, 44] (by decide) 0 3 _).mono ?_
  rintro y v15 ⟨rfl, hb⟩
  rw [n15]
  have hB := hB.trans (hb.mono hB.size)
  clear hb
  go_wp2_with fail
  refine (lsame_any [53, 59, 53] (by decide) 0 3 _).mono ?_
  rintro y v16 ⟨rfl, hb⟩
  rw [n16]
  have hB := hB.trans (hb.mono hB.size)
  clear hb
  go_wp2_with fail
  refine (awake_any _ (by first | exact hNT | exact hNT.below hB | exact hNT.below hB.drew | exact hNT.below (by assumption))).mono ?_
  rintro y v17 ⟨rfl, hb⟩
  have hB := hB.trans (hb.mono hB.size)
  clear hb
  go_wp2_with fail
  go_ret
  exact ⟨rfl, hB⟩
end Go.Proofs.YtekbahpobhjobaaDoor
