/-
  The program's add, build and fits, for lists shorter than 100000 of texts shorter than 100000 bytes.
-/
import Derived.Test.YtkchhgpebleioaaDoorDProg1
namespace Go.Proofs.YtkchhgpebleioaaDoor
open Go.RowKit
theorem byteCells_append (a b : List UInt8) : Lib.byteCells (a ++ b) = Lib.byteCells a ++ Lib.byteCells b := by simp [Lib.byteCells]
theorem BIs.below {B b : Nat} {bs : List Value} {w w' : World} (h : BIs B b bs w) (hb : Below w.heap.size w w') : BIs B b bs w' := by
  rcases h with ⟨hB, v, h1, h2, h3⟩ | ⟨hB, v, h1, h2, h3⟩
  · exact .inl ⟨hB, v, (hb.block b (lt_of_block h1)).trans h1, own_belowR h2 hb, h3⟩
  · exact .inr ⟨hB, v, (hb.block b (lt_of_block h1)).trans h1, own_belowR h2 hb, h3⟩
set_option maxRecDepth 100000 in
set_option maxHeartbeats 2000000 in
theorem add_any (B b : Nat) (O x : List UInt8) (hO : O.length < 20000000000) (hx : x.length < 1000000) (w : World) (h : BIs B b (Lib.byteCells O) w) (hBw : B ≤ w.heap.size) :
    Calls Tryd.prog 58 #[.pointer (some ⟨b, 0, none⟩), .string ⟨x.toArray⟩] w fun e w' => e = .returned (.tuple #[]) ∧ BIs B b (Lib.byteCells (O ++ 47 :: x)) w' ∧ Below B w w' := by
  have hw1 := writeString_any B b (Lib.byteCells O) [47] w h (by rw [Lib.byteCells_length]; simp; omega) hBw
  rw [← byteCells_append] at hw1
  have hlen : (O ++ [47]).length < 20000000001 := by simp; omega
  have HE : Hid (O ++ 47 :: x = O ++ [47] ++ x) := Lib.hid (by simp)
  obtain ⟨O2, hO2⟩ : ∃ O2, O ++ [47] = O2 := ⟨_, rfl⟩
  rw [hO2] at hw1 hlen HE
  have HW1 := Lib.hid hw1
  clear hw1 hO2
  go_enter Tryd.func58, Tryd.ntmps58
  go_wp2_with fail
  refine HW1.out.mono ?_
  rintro e w1 ⟨rfl, h1, hb1⟩
  have hw2 := writeString_any B b (Lib.byteCells O2) x w1 (.inr h1) (by rw [Lib.byteCells_length]; omega) (Nat.le_trans hBw hb1.size)
  rw [← byteCells_append] at hw2
  have HW2 := Lib.hid hw2
  clear hw2 h1
  go_wp2_with fail
  refine HW2.out.mono ?_
  rintro e w2 ⟨rfl, h2, hb2⟩
  go_wp2_with fail
  go_end0
  refine ⟨rfl, ?_, hb1.trans hb2⟩
  rw [HE.out]
  exact .inr h2
set_option maxRecDepth 100000 in
set_option maxHeartbeats 4000000 in
theorem build_any (L : List (List UInt8)) (o : Bool) (hn : L.length < 100000) (hL : ∀ x ∈ L, x.length < 100000) (v : Value) (w : World) (hv : StrsAt w v L) :
    Calls Tryd.prog 41 #[v, .bool o] w fun e w' => e = .returned (.string ⟨(putL L o).toArray⟩) ∧ Below w.heap.size w w' := by
  obtain ⟨p, c, rfl, hC⟩ := hv
  have HC := Lib.hid hC
  have HL := Lib.hid hL
  have H0 : Hid (flatL (L.take 0) = []) := Lib.hid rfl
  obtain ⟨W0, hW0⟩ : ∃ W0, w.alloc (.cells #[.pointer none, .slice none 0 0] 60) = W0 := ⟨_, rfl⟩
  have HB0 : Hid (Below w.heap.size w W0) := Lib.hid (by rw [← hW0]; exact (Below.refl _ _).alloc (Nat.le_refl _) _)
  have HI0 : Hid (BIs w.heap.size w.heap.size (Lib.byteCells []) W0) := Lib.hid (by
    rw [← hW0]
    exact .inl ⟨Nat.le_refl _, .slice none 0 0, heap_alloc_new w _, World.ownsRow_nil _ _ _ _, by simp [Value.ownBlock]⟩)
  clear hC hL
  go_enter Tryd.func41, Tryd.ntmps41
  go_upto_region 2 with fail
  clear hW0
  go_wp2_with fail
  go_loopw [10] (fun i wr => ∃ (k : Nat) (O : List UInt8), k ≤ L.length ∧ i = .int .i64 k ∧ O.length ≤ k * 100002 ∧ Hid (flatL (L.take k) = O) ∧ Hid (BIs w.heap.size w.heap.size (Lib.byteCells O) wr) ∧ Hid (Below w.heap.size w wr)) (fun i _ => L.length - (intOf i).toNat)
  case atStart => exact ⟨0, [], Nat.zero_le _, rfl, Nat.zero_le _, H0, HI0, HB0⟩
  case round =>
    clear H0 HI0 HB0
    obtain ⟨k, O, hk, rfl, hO, hp, hI, hB⟩ := hrel
    rename World => W
    by_cases hlt : k < L.length
    · have h1 : decide ((k : Int) < (L.length : Int)) = true := decide_eq_true (by omega)
      have hb2 : (k : Int) < (L.length : Int) := by omega
      obtain ⟨b, off, rfl, hbl, hcell⟩ := str_cell HC.out (Below.refl _ _) hlt
      have hcell := (hB.out.cell (p := ⟨b, off + k, none⟩) hbl).trans hcell
      have hxl := HL.out _ (List.getElem_mem hlt)
      have hat : flatL (L.take (k + 1)) = O ++ 47 :: L[k] := by
        rw [List.take_succ_eq_append_getElem hlt, flat_append, hp.out]
        simp [flatL]
      obtain ⟨x, hx⟩ : ∃ x, L[k] = x := ⟨_, rfl⟩
      rw [hx] at hat hxl hcell
      have HADD := Lib.hid (add_any w.heap.size w.heap.size O x (by omega) (by omega) W hI.out hB.out.size)
      obtain ⟨O2, hO2⟩ : ∃ O2, O ++ 47 :: x = O2 := ⟨_, rfl⟩
      have hO2l : O2.length ≤ (k + 1) * 100002 := by rw [← hO2]; simp; omega
      rw [hO2] at hat HADD
      have hnext : Hid (flatL (L.take (k + 1)) = O2) := Lib.hid hat
      clear hat hx hO2
      go_wp2_with fail
      refine HADD.out.mono ?_
      rintro e w2 ⟨rfl, hI2, hb⟩
      have HI2 := Lib.hid hI2
      have HB2 := Lib.hid (hB.out.trans hb)
      clear hI2 hb
      go_wp2_with fail
      go_roundw
      case rel => exact ⟨k + 1, O2, by omega, by go_num, hO2l, hnext, HI2, HB2⟩
      case measure => simp [intOf]; omega
    · have h1 : decide ((k : Int) < (L.length : Int)) = false := decide_eq_false (by omega)
      have hF : flatL L = O := by rw [← hp.out, List.take_of_length_le (by omega)]
      obtain ⟨b, hb⟩ : ∃ b, (L == []) = b := ⟨_, rfl⟩
      have hb3 : ((L.length : Int) == 0) = b := by
        rw [← hb, Bool.eq_iff_iff, beq_iff_eq, beq_iff_eq]
        constructor
        · intro e; exact List.eq_nil_of_length_eq_zero (by omega)
        · intro e; rw [e]; rfl
      have HR : Hid (putL L o = O ++ (if o || b then [47] else [])) := Lib.hid (by unfold putL; rw [hF, hb])
      have HW := Lib.hid (writeString_any w.heap.size w.heap.size (Lib.byteCells O) [47] W hI.out (by rw [Lib.byteCells_length]; simp; omega) hB.out.size)
      clear hF hb
      cases o with
      | true =>
        go_wp2_with fail
        refine HW.out.mono ?_
        rintro e w2 ⟨rfl, h2, hb2⟩
        rw [← byteCells_append] at h2
        have HB2 := Lib.hid (hB.out.trans hb2)
        have HS := Lib.hid (string_any w.heap.size w.heap.size (O ++ [47]) w2 (.inr h2) HB2.out.size)
        clear h2 hb2
        go_wp2_with fail
        refine HS.out.mono ?_
        rintro e w3 ⟨rfl, hb4⟩
        have HB4 := Lib.hid (HB2.out.trans hb4)
        clear hb4
        go_wp2_with fail
        go_ret
        exact ⟨by rw [HR.out]; rfl, HB4.out⟩
      | false =>
        cases b with
        | true =>
          go_wp2_with fail
          refine HW.out.mono ?_
          rintro e w2 ⟨rfl, h2, hb2⟩
          rw [← byteCells_append] at h2
          have HB2 := Lib.hid (hB.out.trans hb2)
          have HS := Lib.hid (string_any w.heap.size w.heap.size (O ++ [47]) w2 (.inr h2) HB2.out.size)
          clear h2 hb2
          go_wp2_with fail
          refine HS.out.mono ?_
          rintro e w3 ⟨rfl, hb4⟩
          have HB4 := Lib.hid (HB2.out.trans hb4)
          clear hb4
          go_wp2_with fail
          go_ret
          exact ⟨by rw [HR.out]; rfl, HB4.out⟩
        | false =>
          have HS := Lib.hid (string_any w.heap.size w.heap.size O W hI.out hB.out.size)
          go_wp2_with fail
          refine HS.out.mono ?_
          rintro e w3 ⟨rfl, hb4⟩
          have HB4 := Lib.hid (hB.out.trans hb4)
          clear hb4
          go_wp2_with fail
          go_ret
          exact ⟨by rw [HR.out]; simp, HB4.out⟩
end Go.Proofs.YtkchhgpebleioaaDoor
