/-
  The program's pieceOf, Join, Get, Append and Canonical.
-/
import Derived.Test.YtbbphchhdppipaaDoorUProg5
import Derived.Test.YtbbphchhdppipaaDoorUProg9
import Derived.Test.YtbbphchhdppipaaDoorURef5
namespace Go.Proofs.YtbbphchhdppipaaDoor
open Go.RowKit
set_option maxRecDepth 100000 in
set_option maxHeartbeats 4000000 in
theorem piece_any (nm vl : List UInt8) (br : Bool) (h1 : nm.length < 1000) (h2 : vl.length < 1000) (w : World) :
    Calls Tryd.prog 57 #[.agg #[.string ⟨nm.toArray⟩, .string ⟨vl.toArray⟩, .bool br]] w fun e w' => e = .returned (.string ⟨(pieceL ⟨nm, vl, br⟩).toArray⟩) ∧ Below w.heap.size w w' := by
  have HE1 : Hid (∀ W, Calls Tryd.prog 13 #[.string ⟨nm.toArray⟩] W fun e w' => e = .returned (.string ⟨(codeL nm).toArray⟩) ∧ Below W.heap.size W w') := Lib.hid fun W => code_any nm (by omega) W
  have HE2 : Hid (∀ W, Calls Tryd.prog 13 #[.string ⟨vl.toArray⟩] W fun e w' => e = .returned (.string ⟨(codeL vl).toArray⟩) ∧ Below W.heap.size W w') := Lib.hid fun W => code_any vl (by omega) W
  have hl1 := code_len nm
  have hl2 := code_len vl
  have hpl : pieceL ⟨nm, vl, br⟩ = if br = true then codeL nm else codeL nm ++ 61 :: codeL vl := rfl
  rw [hpl]
  obtain ⟨C1, hC1⟩ : ∃ C, codeL nm = C := ⟨_, rfl⟩
  obtain ⟨C2, hC2⟩ : ∃ C, codeL vl = C := ⟨_, rfl⟩
  rw [hC1] at HE1 hl1 ⊢
  rw [hC2] at HE2 hl2 ⊢
  clear hpl hC1 hC2
  have p0 : CBlk 40 (w.alloc (.cells #[.string ⟨nm.toArray⟩, .string ⟨vl.toArray⟩, .bool br] 40)) w.heap.size [.string ⟨nm.toArray⟩, .string ⟨vl.toArray⟩, .bool br] := CBlk.new _ w _
  have hB := (Below.refl _ w).alloc (Nat.le_refl _) (.cells #[.string ⟨nm.toArray⟩, .string ⟨vl.toArray⟩, .bool br] 40)
  cases br with
  | true =>
    go_enter Tryd.func57, Tryd.ntmps57
    go_wp2_with fail
    refine (HE1.out _).mono ?_
    rintro e w1 ⟨rfl, hb⟩
    go_wp2_with fail
    go_ret
    exact ⟨rfl, hB.trans (hb.mono hB.size)⟩
  | false =>
    obtain ⟨o1, ho1⟩ : ∃ o, C1 ++ [61] = o := ⟨_, rfl⟩
    obtain ⟨o2, ho2⟩ : ∃ o, o1 ++ C2 = o := ⟨_, rfl⟩
    have lo1 : o1.length = C1.length + 1 := by rw [← ho1]; simp
    have s1 : ∀ w, (Op.stringOp .add ⟨C1.toArray⟩ ⟨#[61]⟩).run Tryd.prog w = .ok (.string ⟨o1.toArray⟩) w := str_add_to (b := [61]) ho1 (by simp; omega)
    have s2 : ∀ w, (Op.stringOp .add ⟨o1.toArray⟩ ⟨C2.toArray⟩).run Tryd.prog w = .ok (.string ⟨o2.toArray⟩) w := str_add_to ho2 (by omega)
    have HR : Hid (C1 ++ 61 :: C2 = o2) := Lib.hid (by rw [← ho2, ← ho1]; simp)
    rw [if_neg (by simp), HR.out]
    clear ho1 ho2 lo1 hl1 hl2 HR
    go_enter Tryd.func57, Tryd.ntmps57
    go_upto_region 3 with fail
    obtain ⟨X, hX⟩ : ∃ X, w.alloc (.cells #[.string ⟨nm.toArray⟩, .string ⟨vl.toArray⟩, .bool false] 40) = X := ⟨_, rfl⟩
    rw [hX] at p0 hB ⊢
    clear hX
    have c0 := p0.cell 0 (by simp)
    have c1 := p0.cell 1 (by simp)
    have c2 := p0.cell 2 (by simp)
    have lp := p0.lt
    go_region_with (first
      | (go_at_call 13; (with_reducible refine (HE1.out _).mono ?_); rintro e w5 ⟨rfl, hb5⟩; have p5 := p0.below (w := X.drew) hb5 lp; have c51 := p5.cell 1 (by simp); have hB5 := hB.drew.trans (hb5.mono hB.drew.size))
      | (go_at_call 13; (with_reducible refine (HE2.out _).mono ?_); rintro e w6 ⟨rfl, hb6⟩; have hB6 := hB5.trans (hb6.mono hB5.size)))
    all_goals
      go_wp2_with fail
      go_ret
      exact ⟨rfl, hB6⟩
theorem find_bad {L : List Pr} : (L.find? badP = none ↔ L.any badP = false) := by
  rw [List.find?_eq_none, List.any_eq_false]
set_option maxRecDepth 100000 in
set_option maxHeartbeats 8000000 in
theorem join_any (L : List Pr) (hn : L.length < 1000) (hs : ∀ p ∈ L, p.nm.length < 1000 ∧ p.vl.length < 1000) (p : Option Addr) (c : Nat) (w : World) (hC : PrsIn w p L) :
    Calls Tryd.prog 29 #[.slice p L.length c] w fun e w' => e = .returned (strR (joinR L)) ∧ Below w.heap.size w w' := by
  obtain ⟨F, hF⟩ : ∃ F, L.find? badP = F := ⟨_, rfl⟩
  have HF : Hid (∀ W, PrsIn W p L → Calls Tryd.prog 54 #[.slice p L.length c, .func (.func 56) #[] #[]] W fun e w' => e = .returned (fstV F) ∧ Below W.heap.size W w') := Lib.hid fun W h => by
    have h := first_bad L hn p c W h
    rwa [hF] at h
  have HC := Lib.hid hC
  cases F with
  | some P =>
    have hany : L.any badP = true := by
      cases h : L.any badP with
      | true => rfl
      | false => rw [find_bad.2 h] at hF; cases hF
    have HR : Hid (joinR L = .inl 3) := Lib.hid (by unfold joinR; rw [if_pos hany])
    rw [HR.out]
    obtain ⟨nm, vl, br⟩ := P
    clear hF hC hs hany
    go_enter Tryd.func29, Tryd.ntmps29
    go_wp2_with fail
    refine (HF.out _ HC.out).mono ?_
    rintro e w1 ⟨rfl, hb⟩
    have hB := hb.alloc hb.size (.cells #[.string ⟨nm.toArray⟩, .string ⟨vl.toArray⟩, .bool br] 40)
    unfold fstV
    dsimp only
    go_wp2_with fail
    go_ret2
    exact ⟨rfl, hB⟩
  | none =>
    have hany : L.any badP = false := find_bad.1 hF
    obtain ⟨R, hR⟩ : ∃ R, joinR L = R := ⟨_, rfl⟩
    rw [hR]
    have hR2 := hR
    unfold joinR at hR2
    rw [if_neg (by rw [hany]; simp)] at hR2
    have HR := Lib.hid hR2
    have HS := Lib.hid hs
    clear hF hC hs hR hR2 hany
    go_enter Tryd.func29, Tryd.ntmps29
    go_wp2_with fail
    refine (HF.out _ HC.out).mono ?_
    rintro e w1 ⟨rfl, hb⟩
    have hB1 := hb.alloc hb.size (.cells #[.string ⟨#[]⟩, .string ⟨#[]⟩, .bool false] 40)
    unfold fstV
    dsimp only
    go_wp2_with fail
    have hJ : JIs (w1.heap.size + 1) (w1.heap.size + 1) [] ((w1.alloc (.cells #[.string ⟨#[]⟩, .string ⟨#[]⟩, .bool false] 40)).alloc (.cells #[.pointer none, .slice none 0 0] 58)) := by
      have h := Lib.fresh_isBuilder 58 5 (w1.alloc (.cells #[.string ⟨#[]⟩, .string ⟨#[]⟩, .bool false] 40))
      rw [World.size_alloc] at h
      exact h
    have hB2 := hB1.alloc hB1.size (.cells #[.pointer none, .slice none 0 0] 58)
    have hsz := hb.size
    obtain ⟨N, hN⟩ : ∃ N, w1.heap.size + 1 = N := ⟨_, rfl⟩
    rw [hN] at hJ
    try rw [hN]
    have hwN : w.heap.size ≤ N := by omega
    obtain ⟨w2, hw2⟩ : ∃ w2, ((w1.alloc (.cells #[.string ⟨#[]⟩, .string ⟨#[]⟩, .bool false] 40)).alloc (.cells #[.pointer none, .slice none 0 0] 58)) = w2 := ⟨_, rfl⟩
    rw [hw2] at hJ hB2
    try rw [hw2]
    have hN2 := Nat.le_of_lt hJ.lt
    clear hw2 hN hsz hb hB1
    go_loopw [17] (fun i wr => ∃ (k : Nat) (O : List UInt8), k ≤ L.length ∧ i = .int .i64 k ∧ JIs N N (Lib.byteCells O) wr ∧ O.length ≤ 128 ∧ Hid (joinF O (k == 0) (L.drop k) = joinL L) ∧ N ≤ wr.heap.size ∧ Below w.heap.size w wr) (fun i _ => L.length - (intOf i).toNat)
    case atStart => exact ⟨0, [], by omega, rfl, hJ, by simp, Lib.hid rfl, hN2, hB2⟩
    case round =>
    clear hJ hN2 hB2
    obtain ⟨k, O, hk, rfl, hJ, hO, hjo, hNw, hB⟩ := hrel
    by_cases hlt : k < L.length
    · have d1 : decide ((k : Int) < (L.length : Int)) = true := decide_eq_true (by omega)
      have hb2 : (k : Int) < (L.length : Int) := by omega
      obtain ⟨b, off, rfl, hbl, x0, x1, x2⟩ := pr_cells HC.out hB hlt
      have hsm := HS.out _ (List.getElem_mem hlt)
      have hjat := joinF_at (O := O) (f := (k == 0)) hlt
      obtain ⟨P, hP⟩ : ∃ P, L[k] = P := ⟨_, rfl⟩
      rw [hP] at x0 x1 x2 hsm hjat
      clear hP
      have hpl := piece_len P
      obtain ⟨nm, vl, br⟩ := P
      dsimp only at x0 x1 x2 hsm hpl
      have HPC : Hid (∀ W, Calls Tryd.prog 57 #[.agg #[.string ⟨nm.toArray⟩, .string ⟨vl.toArray⟩, .bool br]] W fun e w' => e = .returned (.string ⟨(pieceL ⟨nm, vl, br⟩).toArray⟩) ∧ Below W.heap.size W w') := Lib.hid fun W => piece_any nm vl br hsm.1 hsm.2 W
      obtain ⟨C, hCe⟩ : ∃ C, pieceL ⟨nm, vl, br⟩ = C := ⟨_, rfl⟩
      rw [hCe] at HPC hjat hpl
      obtain ⟨o1, ho1⟩ : ∃ o1, (if (k == 0) = true then O else O ++ [38]) = o1 := ⟨_, rfl⟩
      rw [ho1] at hjat
      have ho1l : o1.length ≤ O.length + 1 := by
        rw [← ho1]
        split
        · omega
        · simp
      obtain ⟨o2, ho2⟩ : ∃ o2, o1 ++ C = o2 := ⟨_, rfl⟩
      have l2 : o2.length = o1.length + C.length := by rw [← ho2, List.length_append]
      have hk1 : ((k + 1 : Nat) == 0) = false := by simp
      have hnext : Hid (joinF o2 (k + 1 == 0) (L.drop (k + 1)) = joinL L) := Lib.hid (by rw [hk1, ← hjo.out, hjat, ho2])
      have hlong : 128 < o2.length → R = .inl 4 := fun h => by
        have h2 := joinF_len (L.drop (k + 1)) o2 (k + 1 == 0)
        rw [hnext.out] at h2
        rw [← HR.out, if_pos (by omega)]
      have HLONG := Lib.hid hlong
      have p0 : CBlk 40 (wr.alloc (.cells #[.string ⟨nm.toArray⟩, .string ⟨vl.toArray⟩, .bool br] 40)) wr.heap.size [.string ⟨nm.toArray⟩, .string ⟨vl.toArray⟩, .bool br] := CBlk.new _ wr _
      have hBa := hB.alloc hB.size (.cells #[.string ⟨nm.toArray⟩, .string ⟨vl.toArray⟩, .bool br] 40)
      have hJa : JIs N N (Lib.byteCells O) (wr.alloc (.cells #[.string ⟨nm.toArray⟩, .string ⟨vl.toArray⟩, .bool br] 40)) := hJ.below (Below.alloc (Below.refl _ wr) (Nat.le_refl _) _)
      have hNa : N ≤ (wr.alloc (.cells #[.string ⟨nm.toArray⟩, .string ⟨vl.toArray⟩, .bool br] 40)).heap.size := by simp; omega
      have hNlt : N < wr.heap.size := hJ.lt
      clear hjat hjo hlong hCe hk1 hJ
      by_cases hk0 : 0 < k
      · have d2 : decide (0 < (k : Int)) = true := decide_eq_true (by omega)
        have HO1 : Hid (O ++ [38] = o1) := Lib.hid (by rw [← ho1, if_neg (by simp; omega)])
        have HO2 := Lib.hid ho2
        have HL2 := Lib.hid l2
        clear ho1 ho2 l2
        go_wp2_with fail
        refine (j_writeString_any N N (Lib.byteCells O) [38] _ hJa (by rw [Lib.byteCells_length]; simp; omega) hNa).mono ?_
        rintro e w3 ⟨rfl, ⟨h3, hb3⟩, hk3⟩
        have hB3 := hBa.trans (hb3.mono hwN)
        have hN3 := Nat.le_trans hNa hb3.size
        rw [← bytes_append, HO1.out] at h3
        have p3 := hk3 _ _ p0
        have c0 := p3.cell 0 (by simp)
        have c1 := p3.cell 1 (by simp)
        have c2 := p3.cell 2 (by simp)
        clear hk3 hb3 hBa hJa p0 hNa
        go_wp2_with fail
        refine (HPC.out _).mono ?_
        rintro e w4 ⟨rfl, hb4⟩
        have h4 : JIs N N (Lib.byteCells o1) w4 := JIs.below (.inr h3) hb4
        have hB4 := hB3.trans (hb4.mono hB3.size)
        have hN4 := Nat.le_trans hN3 hb4.size
        clear hb4 h3 hB3 c0 c1 c2 p3
        go_wp2_with fail
        refine (j_writeString_any N N (Lib.byteCells o1) C _ h4 (by rw [Lib.byteCells_length]; omega) hN4).mono ?_
        rintro e w5 ⟨rfl, ⟨h5, hb5⟩, -⟩
        have hB5 := hB4.trans (hb5.mono hwN)
        have hN5 := Nat.le_trans hN4 hb5.size
        rw [← bytes_append, HO2.out] at h5
        clear hb5 h4 hB4
        go_wp2_with fail
        refine (j_len_any N N (Lib.byteCells o2) _ (.inr h5)).mono ?_
        rintro e w' ⟨rfl, rfl⟩
        rw [Lib.byteCells_length]
        by_cases h128 : 128 < o2.length
        · have d3 : decide ((128 : Int) < (o2.length : Int)) = true := decide_eq_true (by omega)
          have hres := Lib.hid (HLONG.out h128)
          go_wp2_with fail
          go_ret2
          exact ⟨by rw [hres.out]; rfl, hB5⟩
        · have d3 : decide ((128 : Int) < (o2.length : Int)) = false := decide_eq_false (by omega)
          have h128b : o2.length ≤ 128 := by omega
          go_wp2_with fail
          go_roundw
          case rel => exact ⟨k + 1, o2, by omega, by go_num, .inr h5, h128b, hnext, hN5, hB5⟩
          case measure => simp [intOf]; omega
      · have d2 : decide (0 < (k : Int)) = false := decide_eq_false (by omega)
        have ho1e : O = o1 := by rw [← ho1, if_pos (by simp; omega)]
        have HO2 := Lib.hid ho2
        have HL2 := Lib.hid l2
        clear ho1 ho2 l2
        subst ho1e
        have c0 := p0.cell 0 (by simp)
        have c1 := p0.cell 1 (by simp)
        have c2 := p0.cell 2 (by simp)
        go_wp2_with fail
        refine (HPC.out _).mono ?_
        rintro e w4 ⟨rfl, hb4⟩
        have h4 : JIs N N (Lib.byteCells O) w4 := JIs.below hJa hb4
        have hB4 := hBa.trans (hb4.mono hBa.size)
        have hN4 := Nat.le_trans hNa hb4.size
        clear hb4 hJa hBa c0 c1 c2 p0 hNa
        go_wp2_with fail
        refine (j_writeString_any N N (Lib.byteCells O) C _ h4 (by rw [Lib.byteCells_length]; omega) hN4).mono ?_
        rintro e w5 ⟨rfl, ⟨h5, hb5⟩, -⟩
        have hB5 := hB4.trans (hb5.mono hwN)
        have hN5 := Nat.le_trans hN4 hb5.size
        rw [← bytes_append, HO2.out] at h5
        clear hb5 h4 hB4
        go_wp2_with fail
        refine (j_len_any N N (Lib.byteCells o2) _ (.inr h5)).mono ?_
        rintro e w' ⟨rfl, rfl⟩
        rw [Lib.byteCells_length]
        by_cases h128 : 128 < o2.length
        · have d3 : decide ((128 : Int) < (o2.length : Int)) = true := decide_eq_true (by omega)
          have hres := Lib.hid (HLONG.out h128)
          go_wp2_with fail
          go_ret2
          exact ⟨by rw [hres.out]; rfl, hB5⟩
        · have d3 : decide ((128 : Int) < (o2.length : Int)) = false := decide_eq_false (by omega)
          have h128b : o2.length ≤ 128 := by omega
          go_wp2_with fail
          go_roundw
          case rel => exact ⟨k + 1, o2, by omega, by go_num, .inr h5, h128b, hnext, hN5, hB5⟩
          case measure => simp [intOf]; omega
    · have d1 : decide ((k : Int) < (L.length : Int)) = false := decide_eq_false (by omega)
      have hO2 : O = joinL L := by
        have := hjo.out
        rw [List.drop_of_length_le (by omega)] at this
        exact this
      have hres : Hid (R = .inr O) := Lib.hid (by rw [← HR.out, ← hO2, if_neg (by omega)])
      clear hO2 hjo
      go_wp2_with fail
      refine (j_string_any N N O _ hJ hNw).mono ?_
      rintro e w5 ⟨rfl, hb5⟩
      have hB5 := hB.trans (hb5.mono hwN)
      go_wp2_with fail
      go_ret2
      exact ⟨by rw [hres.out]; rfl, hB5⟩
end Go.Proofs.YtbbphchhdppipaaDoor
