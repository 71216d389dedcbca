/-
  The law ChunkedEncodes, for every body and all sizes.
-/
import Derived.Test.YtbafmiejgpgamaaGreatDoorCRefE
import Derived.Laws.AppendOwnNone
import Derived.Laws.OwnMore
namespace Go.Proofs.YtbafmiejgpgamaaGreatDoor
open Go.RowKit
theorem sameInts_any (zs : List Int) (hn : zs.length < 90000) (p q : Option Addr) (c d : Nat) (w : World) (hC : CellsIn w p zs.length (intC fun j => zs.getD j 0)) (hD : CellsIn w q zs.length (intC fun j => zs.getD j 0)) :
    Calls Tryz.prog 11 #[.slice p zs.length c, .slice q zs.length d] w fun e w' => e = .returned (.bool true) ∧ Below w.heap.size w w' := by
  have a0 : ((zs.length : Int) != (zs.length : Int)) = false := by simp
  go_enter Tryz.func11, Tryz.ntmps11
  go_wp2_with fail
  go_loopw [5] (fun i wr => ∃ k : Nat, k ≤ zs.length ∧ i = .int .i64 k ∧ Below w.heap.size w wr) (fun i _ => zs.length - (intOf i).toNat)
  case atStart => exact ⟨0, Nat.zero_le _, rfl, Below.refl _ _⟩
  case round =>
    obtain ⟨k, hk, rfl, hB⟩ := hrel
    by_cases hlt : k < zs.length
    · have a1 : decide ((k : Int) < (zs.length : Int)) = true := decide_eq_true (by omega)
      have a2 : decide (k < zs.length) = true := decide_eq_true hlt
      have hi2 : (k : Int) < (zs.length : Int) := by omega
      obtain ⟨g, off, rfl, hg, hcell⟩ := hC k hlt
      obtain ⟨g2, off2, rfl, hg2, hcell2⟩ := hD k hlt
      obtain ⟨z, hz⟩ : ∃ z, zs.getD k 0 = z := ⟨_, rfl⟩
      have c1 : wr.cell? ⟨g, off + k, none⟩ = some (.int .i64 z) := by
        rw [hB.cell (p := ⟨g, off + k, none⟩) hg, hcell]
        show some (Value.int .i64 (zs.getD k 0)) = _
        rw [hz]
      have c2 : wr.cell? ⟨g2, off2 + k, none⟩ = some (.int .i64 z) := by
        rw [hB.cell (p := ⟨g2, off2 + k, none⟩) hg2, hcell2]
        show some (Value.int .i64 (zs.getD k 0)) = _
        rw [hz]
      have hne : (z != z) = false := by simp
      have hw1 : wrap64 ((k : Int) + 1) = (k : Int) + 1 := by unfold wrap64; omega
      have hB2 := hB.drew
      clear hcell hcell2 hz
      go_wp2_with fail
      go_region
      all_goals
        go_wp2_with fail
        first
          | exact ⟨⟨k + 1, by omega, by go_num, hB2⟩, by simp [intOf]; omega⟩
          | (rw [hw1]; exact ⟨⟨k + 1, by omega, by go_num, hB2⟩, by simp [intOf]; omega⟩)
          | (go_roundw
             case rel => exact ⟨k + 1, by omega, by go_num, hB2⟩
             case measure => simp [intOf]; omega)
    · have a1 : decide ((k : Int) < (zs.length : Int)) = false := decide_eq_false (by omega)
      have a2 : decide (k < zs.length) = false := decide_eq_false hlt
      obtain rfl : k = zs.length := by omega
      go_wp2_with fail
      go_ret
      exact ⟨rfl, hB⟩
theorem ownI_form {W : World} {base : Nat} {v : Value} {zs : List Int} (h : W.ownsRow base 3 1 v zs.length (zs.map (Value.int .i64))) : ∃ p c, v = .slice p zs.length c ∧ CellsIn W p zs.length (intC fun j => zs.getD j 0) := by
  rcases h.2 with ⟨rfl, h0⟩ | ⟨g, cap, cur, rfl, hb, hg, rest⟩
  · exact ⟨none, 0, by rw [h0], fun j hj => by omega⟩
  · refine ⟨some ⟨g, 0, none⟩, cap, rfl, fun j hj => ⟨g, 0, rfl, lt_of_block hg, ?_⟩⟩
    have h1 : (zs.map (Value.int .i64))[j]? = some (intC (fun j => zs.getD j 0) j) := by
      rw [List.getElem?_map, List.getElem?_eq_getElem hj]
      show some (Value.int .i64 zs[j]) = some (.int .i64 (zs.getD j 0))
      rw [List.getD_eq_getElem?_getD, List.getElem?_eq_getElem hj]
      rfl
    have := h.cells (g := g) rfl j _ h1
    rw [Addr.add_lit] at this
    exact this
set_option maxRecDepth 100000 in
set_option maxHeartbeats 2000000 in
theorem ownInts_any (zs : List Int) (hn : zs.length < 90000) (p : Option Addr) (c : Nat) (hp : p = none → c = 0) (w : World) (hC : CellsIn w p zs.length (intC fun j => zs.getD j 0)) :
    Calls Tryz.prog 8 #[.slice p zs.length c] w fun e w' => (∃ q d, e = .returned (.slice q zs.length d) ∧ CellsIn w' q zs.length (intC fun j => zs.getD j 0)) ∧ Below w.heap.size w w' := by
  obtain ⟨i0, hi, hz0, hz1, hz2⟩ := info_parts infoI
  have hlit := World.ownsRow_lit (base := w.heap.size) (e := 3) (size := 1) w #[] 0 (Nat.le_refl _) (by decide) rfl
  have hB1 : Below w.heap.size w (w.alloc (.cells #[] 3)) := (Below.refl _ _).alloc (Nat.le_refl _) _
  cases p with
  | none =>
    obtain rfl := hp rfl
    have hL : zs = [] := by
      cases zs with
      | nil => rfl
      | cons x r =>
        obtain ⟨b, off, e, _⟩ := hC 0 (by simp)
        cases e
    subst hL
    clear hC
    go_enter Tryz.func8, Tryz.ntmps8
    go_wp2_with (at_builtin; refine wpList_append_own_none rfl _ _ 26 rfl _ 3 i0 1 Tryz.underlying26 hi _ _ _ rfl hlit rfl ?_)
    go_ret
    exact ⟨⟨_, ⟨_, rfl⟩, fun j hj => absurd hj (Nat.not_lt_zero j)⟩, hB1⟩
  | some ad =>
    have hnews : ∀ j u, (zs.map (Value.int .i64))[j]? = some u → (w.alloc (.cells #[] 3)).cell? (ad.add j) = some u := fun j u hj => by
      have hlt : j < zs.length := by
        have := (List.getElem?_eq_some_iff.1 hj).1
        simpa using this
      obtain ⟨b, off, e, hb, hc⟩ := hC j hlt
      injection e with e
      subst e
      rw [Addr.add_lit, hB1.cell (p := ⟨b, off + j, none⟩) hb, hc]
      rw [List.getElem?_map, List.getElem?_eq_getElem hlt] at hj
      injection hj with hj
      rw [← hj]
      show some (Value.int .i64 (zs.getD j 0)) = _
      rw [List.getD_eq_getElem?_getD, List.getElem?_eq_getElem hlt]
      rfl
    have hone : ∀ u ∈ zs.map (Value.int .i64), u.oneCell' = true := fun u hu => by
      obtain ⟨z, _, rfl⟩ := List.mem_map.1 hu
      rfl
    have hlen : (zs.map (Value.int .i64)).length = zs.length * 1 := by simp
    have HF := Lib.hid fun (w1 : World) (v : Value) (h : w1.ownsRow w.heap.size 3 1 v (0 + zs.length) ([] ++ zs.map (Value.int .i64))) => ownI_form (by rw [Nat.zero_add, List.nil_append] at h; exact h)
    have HG : Hid (∀ w1, (w.alloc (.cells #[] 3)).grownBy w1 (Value.ownBlock (.slice (some ⟨w.heap.size, 0, none⟩) 0 0)) → Below w.heap.size w w1) := Lib.hid fun w1 h3 =>
      hB1.trans ⟨h3.os, h3.tape, h3.output, h3.size, fun k hk => h3.block k (by simp; omega) (fun e => by simp [Value.ownBlock] at e; omega)⟩
    clear hC
    go_enter Tryz.func8, Tryz.ntmps8
    go_wp2_with (at_builtin; refine wpList_append_own _ rfl _ _ 26 rfl w.heap.size 3 i0 (.int .i64 0) 1 8 Tryz.underlying26 hi hz0 hz1 hz2 rfl (by decide) _ _ _ rfl hlit ad zs.length c (zs.map (Value.int .i64)) rfl hlen hnews hone (by unfold maxLen; omega) (by omega) hB1.size ?_; intro v' w1 hown' hgrow _)
    obtain ⟨q, d, rfl, hc1⟩ := HF.out w1 v' hown'
    go_wp2_with fail
    go_ret
    exact ⟨⟨q, ⟨d, rfl⟩, hc1⟩, HG.out w1 hgrow⟩
set_option maxHeartbeats 8000000 in
theorem encodes_law (l : List UInt8) (zs : List Int) (p : Option Addr) (c : Nat) (hp : p = none → c = 0) (w : World) (hC : CellsIn w p zs.length (intC fun j => zs.getD j 0)) (hN : NTab w) :
    Calls Tryz.prog 4 #[.string ⟨l.toArray⟩, .slice p zs.length c] w fun e w' => e = .returned (.bool true) ∧ Below w.heap.size w w' := by
  have HA := Lib.hid fun W h => awake_any W h
  have HN := Lib.hid hN
  clear hN
  by_cases hl : 2100 < l.length
  · have a1 : decide ((2100 : Int) < (l.length : Int)) = true := decide_eq_true (by omega)
    have a2 : decide (2100 < l.length) = true := decide_eq_true hl
    clear hl
    go_enter Tryz.func4, Tryz.ntmps4
    go_wp2_with fail
    refine (HA.out w HN.out).mono ?_
    rintro e w1 ⟨rfl, hb⟩
    go_wp2_with fail
    go_ret
    exact ⟨rfl, hb⟩
  · have a1 : decide ((2100 : Int) < (l.length : Int)) = false := decide_eq_false (by omega)
    have a2 : decide (2100 < l.length) = false := decide_eq_false hl
    by_cases hz : 100 < zs.length
    · have b1 : decide ((100 : Int) < (zs.length : Int)) = true := decide_eq_true (by omega)
      have b2 : decide (100 < zs.length) = true := decide_eq_true hz
      clear hl hz
      go_enter Tryz.func4, Tryz.ntmps4
      go_wp2_with fail
      refine (HA.out w HN.out).mono ?_
      rintro e w1 ⟨rfl, hb⟩
      go_wp2_with fail
      go_ret
      exact ⟨rfl, hb⟩
    · have b1 : decide ((100 : Int) < (zs.length : Int)) = false := decide_eq_false (by omega)
      have b2 : decide (100 < zs.length) = false := decide_eq_false hz
      have HO := Lib.hid (ownInts_any zs (by omega) p c hp w hC)
      have HE := Lib.hid fun q d W h hn => encode_any l (by omega) zs (by omega) q d W h hn
      have HR := Lib.hid fun W h => refEncode_any l (by omega) zs (by omega) p c W h
      have HS := Lib.hid fun q d W h1 h2 => sameInts_any zs (by omega) q p d c W h1 h2
      obtain ⟨X, n, hd⟩ : ∃ X n, encR l zs = (X, n) := ⟨_, _, rfl⟩
      have HV : Hid (encV l zs = .tuple #[.string ⟨X.toArray⟩, .int .i64 (n : Nat)]) := Lib.hid (by unfold encV; rw [hd])
      have hXX : (X == X) = true := by simp
      have HC := Lib.hid hC
      clear hd hl hz hC hp
      go_enter Tryz.func4, Tryz.ntmps4
      go_wp2_with fail
      refine HO.out.mono ?_
      rintro e w1 ⟨⟨q, d, rfl, hc1⟩, hb1⟩
      go_wp2_with fail
      refine (HE.out q d w1 hc1 (HN.out.below hb1)).mono ?_
      rintro e w2 ⟨rfl, hb2⟩
      rw [HV.out]
      have hB2 := hb1.trans (hb2.mono hb1.size)
      go_wp2_with fail
      refine (HR.out w2 (HC.out.below hB2 (Nat.le_refl _))).mono ?_
      rintro e w3 ⟨rfl, hb3⟩
      rw [HV.out]
      have hB3 := hB2.trans (hb3.mono hB2.size)
      have hc3 := (hc1.below hb2 (Nat.le_refl _)).below hb3 (Nat.le_refl _)
      go_wp2_with fail
      refine (HS.out q d w3 hc3 (HC.out.below hB3 (Nat.le_refl _))).mono ?_
      rintro e w4 ⟨rfl, hb4⟩
      have hB4 := hB3.trans (hb4.mono hB3.size)
      go_wp2_with fail
      refine (HA.out w4 (HN.out.below hB4)).mono ?_
      rintro e w5 ⟨rfl, hb5⟩
      go_wp2_with fail
      go_ret
      exact ⟨by first | rfl | simp, hB4.trans (hb5.mono hB4.size)⟩
theorem cells_list {W : World} {p : Option Addr} {n : Nat} {f : Nat → Int} (h : CellsIn W p (n * 1) (intC f)) : CellsIn W p ((List.range n).map f).length (intC fun j => ((List.range n).map f).getD j 0) := fun j hj => by
  have hn : j < n := by simpa using hj
  obtain ⟨b, off, e, h1, h2⟩ := h j (by omega)
  refine ⟨b, off, e, h1, ?_⟩
  rw [h2]
  show some (Value.int .i64 (f j)) = some (.int .i64 (((List.range n).map f).getD j 0))
  rw [List.getD_eq_getElem?_getD, List.getElem?_map, List.getElem?_range hn]
  rfl
theorem encodes_law_f (l : List UInt8) (p : Option Addr) (n c : Nat) (f : Nat → Int) (hp : p = none → c = 0) (w : World) (hC : CellsIn w p (n * 1) (intC f)) (hN : NTab w) :
    Calls Tryz.prog 4 #[.string ⟨l.toArray⟩, .slice p n c] w fun e w' => e = .returned (.bool true) ∧ Below w.heap.size w w' := by
  have h := encodes_law l ((List.range n).map f) p c hp w (cells_list hC) hN
  rw [show ((List.range n).map f).length = n by simp] at h
  exact h
end Go.Proofs.YtbafmiejgpgamaaGreatDoor
