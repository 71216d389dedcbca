/-
  The reference's atom: a set as it is written.
-/
import Derived.Test.YtdnbnigebejgjaaGreatDoorHJW4
import Derived.Test.YtdnbnigebejgjaaGreatDoorHRng
namespace Go.Proofs.YtdnbnigebejgjaaGreatDoor
open Go.RowKit Go.Shelf
theorem full_has : ∀ n, n < 256 → WSet.empty.not.has n = true := by decide +kernel
theorem full_len (s : WSet) : (upto s 0 256).length = 256 ↔ s = WSet.empty.not := by
  constructor
  · intro h
    apply ext_has
    intro n hn
    rw [full_has n hn]
    unfold upto at h
    have h2 : ((List.range 256).filter fun b => decide (0 ≤ b) && s.has b).length = (List.range 256).length := by rw [h, List.length_range]
    have h3 := List.length_filter_eq_length_iff.1 h2 n (List.mem_range.2 hn)
    simpa using h3
  · rintro rfl
    unfold upto
    have : (List.range 256).filter (fun b => decide (0 ≤ b) && WSet.empty.not.has b) = List.range 256 := by
      rw [List.filter_eq_self]
      intro n hn
      rw [full_has n (List.mem_range.1 hn)]
      simp
    rw [this, List.length_range]
set_option maxHeartbeats 4000000 in
set_option maxRecDepth 100000 in
theorem atom19_any (s : WSet) (W : World) :
    Calls Tryz.prog 60 #[s.v] W fun e w' => e = .returned (.string ⟨(setT s).toArray⟩) ∧ Below W.heap.size W w' := by
  have HCT := Lib.hid fun w => class19_any s w
  have HLI : Hid (∀ w, Calls Tryz.prog 85 #[s.v] w fun e w' =>
      ∃ v, e = .returned v ∧ w'.ownsRow w.heap.size 5 1 v (upto s 0 256).length ((upto s 0 256).map enc8) ∧ Below w.heap.size w w') := Lib.hid fun w => by
    obtain ⟨a, b, c, d⟩ := s
    exact refList_any a b c d w
  have HCO : Hid (∀ w, Calls Tryz.prog 83 #[s.v] w fun e w' => e = .returned (.int .i64 ((upto s 0 256).length : Int)) ∧ Below w.heap.size w w') := Lib.hid fun w => by
    obtain ⟨a, b, c, d⟩ := s
    exact refCount_any a b c d w
  have HF := Lib.hid (full_len s)
  have HRES : Hid (setT s = if (upto s 0 256).length = 256 then [46] else if (upto s 0 256).length = 1 then quo [94, 36, 46, 42, 43, 63, 40, 41, 91, 93, 124, 92] (UInt8.ofNat ((upto s 0 256).getD 0 0)) else clsT s) := Lib.hid (by
    unfold setT
    by_cases h : s = WSet.empty.not
    · rw [if_pos h, if_pos ((full_len s).2 h)]
    · rw [if_neg h, if_neg (fun e => h ((full_len s).1 e))])
  have hlt : ∀ x ∈ upto s 0 256, x < 256 := fun x hx => upto_lt hx
  obtain ⟨U, hU⟩ : ∃ U, upto s 0 256 = U := ⟨_, rfl⟩
  rw [hU] at HLI HRES HCO hlt
  obtain ⟨a, b, c, d⟩ := s
  unfold WSet.v at HCT HLI HCO ⊢
  clear hU HF
  have b0 := Blk.new W ⟨a, b, c, d⟩
  have hB0 : Below W.heap.size W (W.alloc (.cells #[.int .u64 (a.toNat : Int), .int .u64 (b.toNat : Int), .int .u64 (c.toNat : Int), .int .u64 (d.toNat : Int)] 41)) := (Below.refl _ W).alloc (Nat.le_refl _) _
  go_enter Tryz.func60, Tryz.ntmps60
  go_wp2_with fail
  refine (HCO.out _).mono ?_
  rintro e w1 ⟨rfl, hb1⟩
  have b1 := b0.below hb1 b0.lt
  have hB1 := hB0.trans (hb1.mono hB0.size)
  obtain ⟨d0, d1, d2, d3⟩ : w1.cell? ⟨W.heap.size, 0, none⟩ = some (.int .u64 (a.toNat : Int)) ∧ w1.cell? ⟨W.heap.size, 1, none⟩ = some (.int .u64 (b.toNat : Int)) ∧ w1.cell? ⟨W.heap.size, 2, none⟩ = some (.int .u64 (c.toNat : Int)) ∧ w1.cell? ⟨W.heap.size, 3, none⟩ = some (.int .u64 (d.toNat : Int)) := b1.cells
  have HB1 := Lib.hid hB1
  clear b0 hB0 hb1
  by_cases h2 : U.length = 256
  · have a1 : ((U.length : Int) == 256) = true := by rw [h2]; rfl
    have HR2 : Hid (setT ⟨a, b, c, d⟩ = [46]) := Lib.hid (HRES.out.trans (if_pos h2))
    clear h2 hB1
    go_wp2_with fail
    go_ret
    exact ⟨by rw [HR2.out]; rfl, HB1.out⟩
  · have a1 : ((U.length : Int) == 256) = false := beq_eq_false_iff_ne.2 (by omega)
    have HRES2 := Lib.hid (HRES.out.trans (if_neg h2))
    clear h2 HRES
    by_cases hl : U.length = 1
    · have a2 : ((U.length : Int) == 1) = true := by rw [hl]; rfl
      have HR2 := Lib.hid (HRES2.out.trans (if_pos hl))
      have HL := Lib.hid hl
      have HLT := Lib.hid hlt
      clear hl hlt HRES2
      go_wp2_with fail
      refine (HLI.out _).mono ?_
      rintro e w2 ⟨v, rfl, hr, hb2⟩
      have hB2 := Lib.hid (hB1.trans (hb2.mono hB1.size))
      rw [HL.out] at hr
      obtain ⟨g, cap, rfl, hg, hg2⟩ := hr.form (by omega)
      have hl := HL.out
      have hx : U.getD 0 0 < 256 := by
        rw [List.getD_eq_getElem?_getD, List.getElem?_eq_getElem (by omega : 0 < U.length)]
        exact HLT.out _ (List.getElem_mem _)
      have hc := hr.cellAt 0 (by omega)
      have hxx : (U.map enc8)[0]? = some (.int .u8 ((UInt8.ofNat (U.getD 0 0)).toNat : Int)) := by
        rw [List.getElem?_map, List.getElem?_eq_getElem (by omega : 0 < U.length)]
        have hx2 : U.getD 0 0 = U[0] := by rw [List.getD_eq_getElem?_getD, List.getElem?_eq_getElem (by omega : 0 < U.length)]; rfl
        show some (Value.int .u8 ((U[0] : Int) % 256)) = _
        rw [hx2] at hx ⊢
        rw [UInt8.toNat_ofNat']
        congr 2
      obtain ⟨x, hxe⟩ : ∃ x, UInt8.ofNat (U.getD 0 0) = x := ⟨_, rfl⟩
      rw [hxe] at hxx HR2
      have HQ := Lib.hid fun w => letter_any [94, 36, 46, 42, 43, 63, 40, 41, 91, 93, 124, 92] (by decide) x w
      rw [hxx] at hc
      clear hxx hxe hx hr hb2 hB1 d0 d1 d2 d3 hl
      go_wp2_with fail
      refine (HQ.out _).mono ?_
      rintro e w3 ⟨rfl, hb3⟩
      go_wp2_with fail
      go_ret
      exact ⟨by rw [HR2.out]; rfl, hB2.out.trans (hb3.mono hB2.out.size)⟩
    · have a2 : ((U.length : Int) == 1) = false := beq_eq_false_iff_ne.2 (by omega)
      have HR2 := Lib.hid (HRES2.out.trans (if_neg hl))
      clear hl HRES2 hB1 hlt
      go_wp2_with fail
      refine (HCT.out _).mono ?_
      rintro e w3 ⟨rfl, hb3⟩
      go_wp2_with fail
      go_ret
      exact ⟨by rw [HR2.out]; rfl, HB1.out.trans (hb3.mono HB1.out.size)⟩
end Go.Proofs.YtdnbnigebejgjaaGreatDoor
