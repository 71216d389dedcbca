/-
  The lines that are made of numbers.
-/
import Derived.Test.YtfagjhadfonhdaaLPure2
import Derived.Test.YtfagjhadfonhdaaLHelp
namespace Go.Proofs.Ytfagjhadfonhdaa
open Go.RowKit
/-- The text of which lines are made. -/
def LT : List UInt8 := [9, 71, 69, 84, 32, 47, 32, 97, 58, 32, 98, 255, 1, 120]
def mkL (x : Int) : Ln := ⟨LT.take (modI x 14).toNat, true⟩
def madeL (I : List Int) : List Ln := (I.take 20).map mkL
theorem made_take {I : List Int} {k : Nat} (h : k < I.length) : (I.take (k + 1)).map mkL = (I.take k).map mkL ++ [mkL (I.getD k 0)] := by
  rw [List.take_add_one, List.getElem?_eq_getElem h, List.map_append, List.getD_eq_getElem?_getD, List.getElem?_eq_getElem h]
  rfl
theorem mk_ok (x : Int) : okLn (mkL x) = true ∧ (mkL x).tx.length < 14 := by
  have h := modI_range x 14 (by decide)
  obtain ⟨a, ha⟩ : ∃ a : Nat, (modI x 14).toNat = a := ⟨_, rfl⟩
  have h2 : a < 14 := by omega
  unfold mkL okLn
  rw [ha]
  clear ha h
  revert a
  decide
theorem made_ok {I : List Int} : ∀ x ∈ madeL I, okLn x = true ∧ x.tx.length < 14 := by
  intro x hx
  obtain ⟨y, _, rfl⟩ := List.mem_map.1 hx
  exact mk_ok y
theorem made_len (I : List Int) : (madeL I).length ≤ 20 := by
  unfold madeL
  rw [List.length_map, List.length_take]
  omega
theorem lt_cut {a : Nat} : (ByteArray.mk #[9, 71, 69, 84, 32, 47, 32, 97, 58, 32, 98, 255, 1, 120]).extract 0 a = ⟨(LT.take a).toArray⟩ := lba_take LT a
set_option maxRecDepth 100000 in
set_option maxHeartbeats 4000000 in
theorem made7_any (I : List Int) (p : Option Addr) (c : Nat) (w : World) (hC : CellsIn w p (I.length * 1) (intC fun j => I.getD j 0)) :
    Calls Try.prog 31 #[.slice p I.length c] w fun e w' => ∃ v, e = .returned v ∧ LnsAt w' v (madeL I) ∧ Below w.heap.size w w' := by
  obtain ⟨i0, hi, hz0, hz1, hz2⟩ := linfo_parts infoLn
  have HC := Lib.hid hC
  clear hC
  go_enter Try.func31, Try.ntmps31
  go_wp2_with fail
  go_loopw [3, 4] (fun o i wr => ∃ (k : Nat) (O : List Ln), k ≤ I.length ∧ k ≤ 20 ∧ i = .int .i64 k ∧ Hid (O = (I.take k).map mkL) ∧ O.length = k ∧ wr.ownsRow w.heap.size 27 2 o O.length (lnsC O) ∧ Below w.heap.size w wr) (fun _ i _ => I.length - (intOf i).toNat)
  case atStart => exact ⟨0, [], Nat.zero_le _, Nat.zero_le _, rfl, Lib.hid (by simp), rfl, World.ownsRow_nil _ _ _ _, Below.refl _ _⟩
  case round =>
    obtain ⟨k, O, hk, h20, rfl, hO, hOl, hrow, hB⟩ := hrel
    subst hOl
    by_cases hlt : O.length < I.length
    · have h1 : decide ((O.length : Int) < (I.length : Int)) = true := decide_eq_true (by omega)
      by_cases hl2 : O.length < 20
      · have h2 : decide ((O.length : Int) < 20) = true := decide_eq_true (by omega)
        have hb2 : (O.length : Int) < (I.length : Int) := by omega
        obtain ⟨b, off, rfl, hbl, x0⟩ := int_cell HC.out hB hlt
        have hnext : Hid (O ++ [mkL (I.getD O.length 0)] = (I.take (O.length + 1)).map mkL) := Lib.hid (by rw [made_take hlt, ← hO.out])
        obtain ⟨x, hx⟩ : ∃ x, I.getD O.length 0 = x := ⟨_, rfl⟩
        rw [hx] at x0 hnext
        have hr := modI_range x 14 (by decide)
        obtain ⟨a, ha⟩ : ∃ a : Nat, modI x 14 = (a : Int) := ⟨(modI x 14).toNat, by omega⟩
        rw [ha] at hr
        have hmk : mkL x = ⟨LT.take a, true⟩ := by unfold mkL; rw [ha]; rfl
        obtain ⟨t, ht⟩ : ∃ t, LT.take a = t := ⟨_, rfl⟩
        rw [ht] at hmk
        rw [hmk] at hnext
        have hex : (ByteArray.mk #[9, 71, 69, 84, 32, 47, 32, 97, 58, 32, 98, 255, 1, 120]).extract 0 a = ⟨t.toArray⟩ := by rw [lt_cut, ht]
        have ha3 : (a : Int) ≤ 14 := by omega
        have HA := Lib.hid ha
        have HROW := Lib.hid hrow
        have HB := Lib.hid hB
        clear hx ha hmk ht hrow hB hO
        go_wp2_with fail
        refine (mod_any x 14 (by decide) (by decide) _).mono ?_
        rintro e w' ⟨rfl, rfl⟩
        rw [HA.out]
        go_wp2_with fail
        refine (goodL_any t _).mono ?_
        rintro e w1 ⟨rfl, hb⟩
        have hrow := own_belowR HROW.out hb
        have hB := HB.out.trans (hb.mono HB.out.size)
        clear hb
        have hB1 := hB.alloc hB.size (.cells #[.string ⟨t.toArray⟩, .bool true] 27)
        obtain ⟨ov, oc, rfl⟩ := own_slice hrow
        go_wp2_with (at_builtin; refine wpList_append_own _ rfl _ _ 32 rfl w.heap.size 27 i0 (.agg #[.string ⟨#[]⟩, .bool false]) 2 24 Try.underlying32 hi hz0 hz1 hz2 rfl (by decide) _ _ _ rfl (World.ownsRow.alloc hrow (.cells #[.string ⟨t.toArray⟩, .bool true] 27)) ⟨w1.heap.size, 0, none⟩ 1 1 [.string ⟨t.toArray⟩, .bool true] rfl rfl (lcell_news w1 _ _) (by simp [Value.oneCell']) (by unfold maxLen; omega) (by omega) hB1.size ?_; intro v' w8 hown' hgrow _)
        go_roundw
        case rel =>
          refine ⟨O.length + 1, O ++ [⟨t, true⟩], by omega, by omega, by go_num, hnext, by simp, ?_, below_grownR hB1 hB1.size hgrow (fun r hr => (hrow.lt r hr).1)⟩
          rw [lnsC_append, List.length_append]
          exact hown'
        case measure => simp [intOf]; omega
      · have h2 : decide ((O.length : Int) < 20) = false := decide_eq_false (by omega)
        have hres : madeL I = O := by rw [hO.out]; unfold madeL; rw [show O.length = 20 by omega]
        have HR := Lib.hid hres
        clear hres
        go_wp2_with fail
        go_ret
        exact ⟨_, rfl, by rw [HR.out]; exact lns_of_own hrow, hB⟩
    · have h1 : decide ((O.length : Int) < (I.length : Int)) = false := decide_eq_false (by omega)
      have hres : madeL I = O := by
        rw [hO.out]
        unfold madeL
        rw [List.take_of_length_le (l := I) (i := 20) (by omega), List.take_of_length_le (l := I) (by omega)]
      have HR := Lib.hid hres
      clear hres
      go_wp2_with fail
      go_ret
      exact ⟨_, rfl, by rw [HR.out]; exact lns_of_own hrow, hB⟩
end Go.Proofs.Ytfagjhadfonhdaa
