/-
  The law RowKnown returns true.
-/
import Derived.Test.YtacceiloggnekaaDoorRHelp
import Derived.Test.YtacceiloggnekaaDoorRSame
import Derived.Test.YtacceiloggnekaaDoorRPure
import Derived.Test.YtacceiloggnekaaDoorRWhich
namespace Go.Proofs.YtacceiloggnekaaDoor
open Go.RowKit
theorem words_lit (W : World) (ws : List Wd) : WordsAt (W.alloc (.cells (wdsC ws).toArray 47)) (.slice (some ⟨W.heap.size, 0, none⟩) ws.length ws.length) ws :=
  ⟨_, _, rfl, fun j hj => by
    have hj' : j < (wdsC ws).length := by rw [wdsC_length]; exact hj
    refine ⟨W.heap.size, 0, rfl, by simp, ?_⟩
    rw [Nat.zero_add, World.cell?_alloc_new]
    dsimp only
    rw [List.getD_eq_getElem?_getD, List.getElem?_eq_getElem hj']
    simp [hj']⟩
theorem kn1 : rowsL [100, 105, 114, 32, 47, 97, 32, 32, 35, 32, 97, 108, 108, 10, 114, 117, 108, 101, 32, 34, 120, 32, 121, 34, 32, 92, 100, 43] = .inr [⟨0, [⟨0, [100, 105, 114], false⟩, ⟨4, [47, 97], false⟩]⟩, ⟨14, [⟨14, [114, 117, 108, 101], false⟩, ⟨19, [120, 32, 121], true⟩, ⟨25, [92, 100, 43], false⟩]⟩] := by kernel_rfl
theorem kn2 : rowsL [] = .inr [] := by kernel_rfl
theorem kn3 : rowsL [34, 97] = .inl (3, 0) := by kernel_rfl
theorem kn4 : rowsL [97, 34, 98] = .inl (3, 0) := by kernel_rfl
theorem kn5 : rowsL [34, 97, 34, 98] = .inl (3, 0) := by kernel_rfl
theorem kn6 : rowsL [195, 169] = .inl (3, 0) := by kernel_rfl
theorem kn7 : rowsL [97, 9, 35, 98] = .inr [⟨0, [⟨0, [97], false⟩]⟩] := by kernel_rfl
theorem kn8 : rowsL [97, 35, 98] = .inr [⟨0, [⟨0, [97, 35, 98], false⟩]⟩] := by kernel_rfl
theorem kw1 : writeL [47, 97] = [47, 97] := by decide +kernel
theorem kw2 : writeL [35, 97] = [34, 35, 97, 34] := by decide +kernel
theorem kw3 : writeL [97, 34, 92] = [34, 97, 92, 34, 92, 92, 34] := by decide +kernel
theorem kw4 : writeL [] = [34, 34] := by decide +kernel
theorem kw5 : writeL [10] = [34, 92, 120, 48, 97, 34] := by decide +kernel
theorem kc1 : whichV [98] (fun j => ([[97], [98], [98]] : List (List UInt8)).getD j []) 3 = .tuple #[.int .i64 1, .int .i64 0] := by kernel_rfl
theorem kc2 : whichV [99] (fun j => ([[97], [98]] : List (List UInt8)).getD j []) 2 = .tuple #[.int .i64 0, .int .i64 11] := by kernel_rfl
theorem kd1 : numK [48, 55] 0 9 = 1003 := by decide +kernel
theorem kd2 : numK [45, 51] (-5) 5 = -3 := by decide +kernel
theorem kd3 : numK [45, 48] 0 9 = 1003 := by decide +kernel
theorem kd4 : numK [49, 50] 0 9 = 1002 := by decide +kernel
set_option maxRecDepth 100000 in
set_option maxHeartbeats 8000000 in
theorem known_law (w : World) (hT : VT w) :
    Calls Tryd.prog 6 #[] w fun e w' => e = .returned (.bool true) ∧ Below w.heap.size w w' := by
  have HVT := Lib.hid hT
  clear hT
  have h1 := fun W (hW : VT W) => rows_any [100, 105, 114, 32, 47, 97, 32, 32, 35, 32, 97, 108, 108, 10, 114, 117, 108, 101, 32, 34, 120, 32, 121, 34, 32, 92, 100, 43] (by decide) W hW
  rw [kn1] at h1
  have H1 := Lib.hid h1
  clear h1
  go_enter Tryd.func6, Tryd.ntmps6
  go_wp2_with fail
  refine (H1.out _ (VT.below (Hid.out (by with_reducible assumption)) (by repeat' (first | (with_reducible exact Below.refl _ _) | (with_reducible assumption) | (with_reducible exact Hid.out (by with_reducible assumption)) | (with_reducible refine below_one _ ?_) | (with_reducible refine Below.drew ?_))))).mono ?_
  rintro e w1 ⟨⟨v1, rfl, p1, c1, cs1, rfl, hcs, hcl⟩, hb⟩
  obtain ⟨b, off, wp0, wc0, rfl, hbw, x0, x1, y0⟩ := row_cells hcs hcl (Below.refl _ w1) (show 0 < 2 by omega)
  obtain ⟨b', off', wp1, wc1, e', -, x2, x3, y1⟩ := row_cells hcs hcl (Below.refl _ w1) (show 1 < 2 by omega)
  injection e' with e'
  injection e' with e1 e2
  subst e1 e2
  rw [Nat.zero_mul, Nat.add_zero] at x0 x1
  have X : Hid (∀ W, Below w1.heap.size w1 W → (W.cell? ⟨b, off, none⟩ = some (.int .i64 0) ∧ W.cell? ⟨b, off + 1, none⟩ = some (.slice wp0 2 wc0) ∧ W.cell? ⟨b, off + 2, none⟩ = some (.int .i64 14) ∧ W.cell? ⟨b, off + 2 + 1, none⟩ = some (.slice wp1 3 wc1) ∧ W.cell? ⟨b, off + 3, none⟩ = some (.slice wp1 3 wc1))) := Lib.hid (fun W hW => by
    have c0 := (hW.cell (p := ⟨b, off, none⟩) hbw).trans x0
    have c1 := (hW.cell (p := ⟨b, off + 1, none⟩) hbw).trans x1
    have c2 := (hW.cell (p := ⟨b, off + 1 * 2, none⟩) hbw).trans x2
    have c3 := (hW.cell (p := ⟨b, off + 1 * 2 + 1, none⟩) hbw).trans x3
    exact ⟨c0, c1, c2, c3, c3⟩)
  have Y0 : Hid (WordsAt w1 (.slice wp0 2 wc0) [⟨0, [100, 105, 114], false⟩, ⟨4, [47, 97], false⟩]) := Lib.hid ⟨wp0, wc0, rfl, y0⟩
  have Y1 : Hid (WordsAt w1 (.slice wp1 3 wc1) [⟨14, [114, 117, 108, 101], false⟩, ⟨19, [120, 32, 121], true⟩, ⟨25, [92, 100, 43], false⟩]) := Lib.hid ⟨wp1, wc1, rfl, y1⟩
  have r1 := CBlk.new 26 w1 [.int .i64 0, .int .i64 0]
  have hB : Below w.heap.size w (w1.alloc (.cells #[.int .i64 0, .int .i64 0] 26)) := hb.alloc hb.size _
  have hBw1 := Lib.hid hb
  have hA : Below w1.heap.size w1 (w1.alloc (.cells #[.int .i64 0, .int .i64 0] 26)) := (Below.refl _ _).alloc (Nat.le_refl _) _
  clear hcs hcl x0 x1 x2 x3 y0 y1 hb
  obtain ⟨k0, k1, k2, k3, k4⟩ := X.out _ hA
  obtain ⟨W1, hW1⟩ : ∃ W1, w1.alloc (.cells #[.int .i64 0, .int .i64 0] 26) = W1 := ⟨_, rfl⟩
  rw [show w1.alloc (.cells ([.int .i64 0, .int .i64 0] : List Value).toArray 26) = W1 from hW1] at r1
  rw [hW1] at hB hA k0 k1 k2 k3 k4
  have HW1 := Lib.hid hW1
  clear hW1
  go_upto_region 2 with fail
  rw [HW1.out]
  clear HW1
  obtain ⟨f0, f1⟩ := r1.cells2
  have s1 := hA.size
  go_wp2_with fail
  refine (sameWords_any [⟨0, [100, 105, 114], false⟩, ⟨4, [47, 97], false⟩] (by decide) _ _ _ (Y0.out.below (hA.alloc s1 _) (Nat.le_refl _)) (words_lit W1 [⟨0, [100, 105, 114], false⟩, ⟨4, [47, 97], false⟩])).mono ?_
  rintro e w2 ⟨rfl, hb⟩
  have hA2 := (hA.alloc s1 (.cells (wdsC [⟨0, [100, 105, 114], false⟩, ⟨4, [47, 97], false⟩]).toArray 47)).trans (hb.mono (by simp; omega))
  have hB2 := (hB.alloc hB.size (.cells (wdsC [⟨0, [100, 105, 114], false⟩, ⟨4, [47, 97], false⟩]).toArray 47)).trans (hb.mono (by have := hB.size; simp; omega))
  have r2 := (r1.alloc (.cells (wdsC [⟨0, [100, 105, 114], false⟩, ⟨4, [47, 97], false⟩]).toArray 47)).below hb (by have := r1.lt; simp; omega)
  clear k0 k1 k2 k3 k4 f0 f1 hb
  obtain ⟨k0, k1, k2, k3, k4⟩ := X.out _ hA2
  go_wp2_with fail
  refine (sameWords_any [⟨14, [114, 117, 108, 101], false⟩, ⟨19, [120, 32, 121], true⟩, ⟨25, [92, 100, 43], false⟩] (by decide) _ _ _ (Y1.out.below (hA2.alloc hA2.size _) (Nat.le_refl _)) (words_lit w2 [⟨14, [114, 117, 108, 101], false⟩, ⟨19, [120, 32, 121], true⟩, ⟨25, [92, 100, 43], false⟩])).mono ?_
  rintro e w3 ⟨rfl, hb⟩
  have hA3 := (hA2.alloc hA2.size (.cells (wdsC [⟨14, [114, 117, 108, 101], false⟩, ⟨19, [120, 32, 121], true⟩, ⟨25, [92, 100, 43], false⟩]).toArray 47)).trans (hb.mono (by have := hA2.size; simp; omega))
  have hB3 := (hB2.alloc hB2.size (.cells (wdsC [⟨14, [114, 117, 108, 101], false⟩, ⟨19, [120, 32, 121], true⟩, ⟨25, [92, 100, 43], false⟩]).toArray 47)).trans (hb.mono (by have := hB2.size; simp; omega))
  have r3 := (r2.alloc (.cells (wdsC [⟨14, [114, 117, 108, 101], false⟩, ⟨19, [120, 32, 121], true⟩, ⟨25, [92, 100, 43], false⟩]).toArray 47)).below hb (by have := r2.lt; simp; omega)
  clear k0 k1 k2 k3 k4 hb
  obtain ⟨k0, k1, k2, k3, k4⟩ := X.out _ hA3
  go_wp2_with fail
  have h2 := fun W (hW : VT W) => rows_any [] (by decide) W hW
  rw [kn2] at h2
  refine (h2 _ (VT.below (Hid.out (by with_reducible assumption)) (by repeat' (first | (with_reducible exact Below.refl _ _) | (with_reducible assumption) | (with_reducible exact Hid.out (by with_reducible assumption)) | (with_reducible refine below_one _ ?_) | (with_reducible refine Below.drew ?_))))).mono ?_
  rintro e w4 ⟨⟨v2, rfl, p2, c2, cs2, rfl, -, -⟩, hb⟩
  have r4 := r3.below hb r3.lt
  have hB4 := hB3.trans (hb.mono hB3.size)
  have hle : w.heap.size ≤ w1.heap.size := by have := hBw1.out.size; omega
  have hB5 := below_store2 hB4 hle (.int .i64 0) (.int .i64 0)
  obtain ⟨f0, f1⟩ := r4.cells2
  have z0 := r4.free 0
  have z1 := r4.free 1
  clear hb k0 k1 k2 k3 k4 h2
  go_wp2_with fail
  refine (faulty_any [34, 97] (by decide) kn3 _ (VT.below (Hid.out (by with_reducible assumption)) (by repeat' (first | (with_reducible exact Below.refl _ _) | (with_reducible assumption) | (with_reducible exact Hid.out (by with_reducible assumption)) | (with_reducible refine below_one _ ?_) | (with_reducible refine Below.drew ?_))))).mono ?_
  rintro e w5 ⟨rfl, hb⟩
  have hB6 := hB5.trans (hb.mono (by have := hB5.size; (try simp at this ⊢) <;> omega))
  clear hb
  go_wp2_with fail
  refine (faulty_any [97, 34, 98] (by decide) kn4 _ (VT.below (Hid.out (by with_reducible assumption)) (by repeat' (first | (with_reducible exact Below.refl _ _) | (with_reducible assumption) | (with_reducible exact Hid.out (by with_reducible assumption)) | (with_reducible refine below_one _ ?_) | (with_reducible refine Below.drew ?_))))).mono ?_
  rintro e w6 ⟨rfl, hb⟩
  have hB7 := hB6.trans (hb.mono (by have := hB6.size; (try simp at this ⊢) <;> omega))
  clear hb
  go_wp2_with fail
  refine (faulty_any [34, 97, 34, 98] (by decide) kn5 _ (VT.below (Hid.out (by with_reducible assumption)) (by repeat' (first | (with_reducible exact Below.refl _ _) | (with_reducible assumption) | (with_reducible exact Hid.out (by with_reducible assumption)) | (with_reducible refine below_one _ ?_) | (with_reducible refine Below.drew ?_))))).mono ?_
  rintro e w7 ⟨rfl, hb⟩
  have hB8 := hB7.trans (hb.mono (by have := hB7.size; (try simp at this ⊢) <;> omega))
  clear hb
  go_wp2_with fail
  refine (faulty_any [195, 169] (by decide) kn6 _ (VT.below (Hid.out (by with_reducible assumption)) (by repeat' (first | (with_reducible exact Below.refl _ _) | (with_reducible assumption) | (with_reducible exact Hid.out (by with_reducible assumption)) | (with_reducible refine below_one _ ?_) | (with_reducible refine Below.drew ?_))))).mono ?_
  rintro e w8 ⟨rfl, hb⟩
  have hB9 := hB8.trans (hb.mono (by have := hB8.size; (try simp at this ⊢) <;> omega))
  clear hb
  go_wp2_with fail
  refine (reads_any [97, 9, 35, 98] (by decide) _ kn7 (by decide) (by simp) [[97]] (by decide) rfl ⟨_, 0, none⟩ 1 _ (VT.below (Hid.out (by with_reducible assumption)) (by repeat' (first | (with_reducible exact Below.refl _ _) | (with_reducible assumption) | (with_reducible exact Hid.out (by with_reducible assumption)) | (with_reducible refine below_one _ ?_) | (with_reducible refine Below.drew ?_)))) (strs_lit _ _ [[97]])).mono ?_
  rintro e w9 ⟨rfl, hb⟩
  have hB10 := (hB9.alloc hB9.size (.cells #[.string ⟨#[97]⟩] 9)).trans (hb.mono (by have := hB9.size; (try simp at this ⊢) <;> omega))
  clear hb
  go_wp2_with fail
  refine (reads_any [97, 35, 98] (by decide) _ kn8 (by decide) (by simp) [[97, 35, 98]] (by decide) rfl ⟨_, 0, none⟩ 1 _ (VT.below (Hid.out (by with_reducible assumption)) (by repeat' (first | (with_reducible exact Below.refl _ _) | (with_reducible assumption) | (with_reducible exact Hid.out (by with_reducible assumption)) | (with_reducible refine below_one _ ?_) | (with_reducible refine Below.drew ?_)))) (strs_lit _ _ [[97, 35, 98]])).mono ?_
  rintro e w10 ⟨rfl, hb⟩
  have hB11 := (hB10.alloc hB10.size (.cells #[.string ⟨#[97, 35, 98]⟩] 9)).trans (hb.mono (by have := hB10.size; (try simp at this ⊢) <;> omega))
  clear hb
  go_wp2_with fail
  refine (write_any [47, 97] (by decide) _).mono ?_
  rintro e w11 ⟨rfl, hb⟩
  have hB12 := hB11.trans (hb.mono (by have := hB11.size; (try simp at this ⊢) <;> omega))
  clear hb
  rw [kw1]
  go_wp2_with fail
  refine (write_any [35, 97] (by decide) _).mono ?_
  rintro e w12 ⟨rfl, hb⟩
  have hB13 := hB12.trans (hb.mono (by have := hB12.size; (try simp at this ⊢) <;> omega))
  clear hb
  rw [kw2]
  go_wp2_with fail
  refine (write_any [97, 34, 92] (by decide) _).mono ?_
  rintro e w13 ⟨rfl, hb⟩
  have hB14 := hB13.trans (hb.mono (by have := hB13.size; (try simp at this ⊢) <;> omega))
  clear hb
  rw [kw3]
  go_wp2_with fail
  refine (write_any [] (by decide) _).mono ?_
  rintro e w14 ⟨rfl, hb⟩
  have hB15 := hB14.trans (hb.mono (by have := hB14.size; (try simp at this ⊢) <;> omega))
  clear hb
  rw [kw4]
  go_wp2_with fail
  refine (write_any [10] (by decide) _).mono ?_
  rintro e w15 ⟨rfl, hb⟩
  have hB16 := hB15.trans (hb.mono (by have := hB15.size; (try simp at this ⊢) <;> omega))
  clear hb
  rw [kw5]
  go_wp2_with fail
  refine (which_any [98] _ 3 3 (by decide) (fun j => ([[97], [98], [98]] : List (List UInt8)).getD j []) _ (strs_lit _ _ [[97], [98], [98]])).mono ?_
  rintro e w16 ⟨rfl, hb⟩
  have hB17 := (hB16.alloc hB16.size (.cells #[.string ⟨#[97]⟩, .string ⟨#[98]⟩, .string ⟨#[98]⟩] 9)).trans (hb.mono (by have := hB16.size; (try simp at this ⊢) <;> omega))
  clear hb
  rw [kc1]
  go_wp2_with fail
  refine (which_any [99] _ 2 2 (by decide) (fun j => ([[97], [98]] : List (List UInt8)).getD j []) _ (strs_lit _ _ [[97], [98]])).mono ?_
  rintro e w17 ⟨rfl, hb⟩
  have hB18 := (hB17.alloc hB17.size (.cells #[.string ⟨#[97]⟩, .string ⟨#[98]⟩] 9)).trans (hb.mono (by have := hB17.size; (try simp at this ⊢) <;> omega))
  clear hb
  rw [kc2]
  go_wp2_with fail
  refine (lnumber_any [48, 55] (by decide) 0 9 _ (VT.below (Hid.out (by with_reducible assumption)) (by repeat' (first | (with_reducible exact Below.refl _ _) | (with_reducible assumption) | (with_reducible exact Hid.out (by with_reducible assumption)) | (with_reducible refine below_one _ ?_) | (with_reducible refine Below.drew ?_)))) (by decide +kernel)).mono ?_
  rintro e w18 ⟨rfl, hb⟩
  have hB19 := hB18.trans (hb.mono (by have := hB18.size; (try simp at this ⊢) <;> omega))
  clear hb
  rw [kd1]
  go_wp2_with fail
  refine (lnumber_any [45, 51] (by decide) (-5) 5 _ (VT.below (Hid.out (by with_reducible assumption)) (by repeat' (first | (with_reducible exact Below.refl _ _) | (with_reducible assumption) | (with_reducible exact Hid.out (by with_reducible assumption)) | (with_reducible refine below_one _ ?_) | (with_reducible refine Below.drew ?_)))) (by decide +kernel)).mono ?_
  rintro e w19 ⟨rfl, hb⟩
  have hB20 := hB19.trans (hb.mono (by have := hB19.size; (try simp at this ⊢) <;> omega))
  clear hb
  rw [kd2]
  go_wp2_with fail
  refine (lnumber_any [45, 48] (by decide) 0 9 _ (VT.below (Hid.out (by with_reducible assumption)) (by repeat' (first | (with_reducible exact Below.refl _ _) | (with_reducible assumption) | (with_reducible exact Hid.out (by with_reducible assumption)) | (with_reducible refine below_one _ ?_) | (with_reducible refine Below.drew ?_)))) (by decide +kernel)).mono ?_
  rintro e w20 ⟨rfl, hb⟩
  have hB21 := hB20.trans (hb.mono (by have := hB20.size; (try simp at this ⊢) <;> omega))
  clear hb
  rw [kd3]
  go_wp2_with fail
  refine (lnumber_any [49, 50] (by decide) 0 9 _ (VT.below (Hid.out (by with_reducible assumption)) (by repeat' (first | (with_reducible exact Below.refl _ _) | (with_reducible assumption) | (with_reducible exact Hid.out (by with_reducible assumption)) | (with_reducible refine below_one _ ?_) | (with_reducible refine Below.drew ?_)))) (by decide +kernel)).mono ?_
  rintro e w21 ⟨rfl, hb⟩
  have hB22 := hB21.trans (hb.mono (by have := hB21.size; (try simp at this ⊢) <;> omega))
  clear hb
  rw [kd4]
  go_wp2_with fail
  refine (awake_any _ (VT.below (Hid.out (by with_reducible assumption)) (by repeat' (first | (with_reducible exact Below.refl _ _) | (with_reducible assumption) | (with_reducible exact Hid.out (by with_reducible assumption)) | (with_reducible refine below_one _ ?_) | (with_reducible refine Below.drew ?_))))).mono ?_
  rintro e w22 ⟨rfl, hb⟩
  have hB23 := hB22.trans (hb.mono (by have := hB22.size; (try simp at this ⊢) <;> omega))
  clear hb
  go_wp2_with fail
  go_ret
  exact ⟨rfl, hB23⟩
end Go.Proofs.YtacceiloggnekaaDoor
