/-
  The program's Join.
-/
import Derived.Test.YtfagjhadfonhdaaLQMach
namespace Go.Proofs.Ytfagjhadfonhdaa
open Go.RowKit
theorem byteCells_append (a b : List UInt8) : Lib.byteCells (a ++ b) = Lib.byteCells a ++ Lib.byteCells b := by simp [Lib.byteCells]
theorem BIs.below {B b : Nat} {bs : List Value} {w w' : World} (h : BIs B b bs w) (hb : Below w.heap.size w w') : BIs B b bs w' := by
  rcases h with ⟨hB, v, h1, h2, h3⟩ | ⟨hB, v, h1, h2, h3⟩
  · exact .inl ⟨hB, v, (hb.block b (lt_of_block h1)).trans h1, own_belowR h2 hb, h3⟩
  · exact .inr ⟨hB, v, (hb.block b (lt_of_block h1)).trans h1, own_belowR h2 hb, h3⟩
set_option maxRecDepth 100000 in
set_option maxHeartbeats 8000000 in
theorem ljoin_any (L : List Ln) (hn : L.length < 100000) (hL : LnsS L) (v : Value) (w : World) (hv : LnsAt w v L) :
    Calls Try.prog 16 #[v] w fun e w' => e = .returned (joinW (goJ [] L)) ∧ Below w.heap.size w w' := by
  obtain ⟨p, cap, rfl, -, hC⟩ := hv
  obtain ⟨R, hR⟩ : ∃ R, goJ [] L = R := ⟨_, rfl⟩
  have H0 : Hid (goJ [] (L.drop 0) = R) := hR
  rw [hR]
  have HC := Lib.hid hC
  have HL := Lib.hid hL
  clear hC hL hR
  obtain ⟨W0, hW0⟩ : ∃ W0, w.alloc (.cells #[.pointer none, .slice none 0 0] 66) = W0 := ⟨_, rfl⟩
  have HB0 : Hid (Below w.heap.size w W0) := Lib.hid (by rw [← hW0]; exact (Below.refl _ _).alloc (Nat.le_refl _) _)
  have HI0 : Hid (BIs w.heap.size w.heap.size [] W0) := Lib.hid (by
    rw [← hW0]
    exact .inl ⟨Nat.le_refl _, .slice none 0 0, heap_alloc_new w _, World.ownsRow_nil _ _ _ _, by simp [Value.ownBlock]⟩)
  have HS0 : Hid (W0.heap.size = w.heap.size + 1) := Lib.hid (by rw [← hW0]; simp)
  go_enter Try.func16, Try.ntmps16
  go_upto_region 2 with fail
  clear hW0
  go_wp2_with fail
  go_loopw [9] (fun i wr => ∃ (k : Nat) (O : List UInt8), k ≤ L.length ∧ i = .int .i64 k ∧ O.length ≤ k * 1000002 ∧ Hid (goJ O (L.drop k) = R) ∧ Hid (BIs w.heap.size w.heap.size (Lib.byteCells O) wr) ∧ Hid (Below w.heap.size w wr)) (fun i _ => L.length - (intOf i).toNat)
  case atStart => exact ⟨0, [], Nat.zero_le _, rfl, Nat.zero_le _, H0, HI0, HB0⟩
  case round =>
    clear H0 HI0 HB0
    obtain ⟨k, O, hk, rfl, hO, hp, hI, hB⟩ := hrel
    rename World => W
    by_cases hlt : k < L.length
    · have h1 : decide ((k : Int) < (L.length : Int)) = true := decide_eq_true (by omega)
      have hb2 : (k : Int) < (L.length : Int) := by omega
      obtain ⟨b, off, rfl, hbl, x0, x1⟩ := ln_cell HC.out hB.out hlt
      have hat := goJ_at (o := O) hlt
      have hfs := HL.out _ (List.getElem_mem hlt)
      obtain ⟨⟨t, g⟩, hx⟩ : ∃ x, L[k] = x := ⟨_, rfl⟩
      rw [hx] at x0 x1 hat hfs
      dsimp only at x0 x1 hat hfs
      clear hx
      obtain ⟨W1, hW1⟩ : ∃ W1, W.alloc (.cells #[.string ⟨t.toArray⟩, .bool g] 27) = W1 := ⟨_, rfl⟩
      have hB1 : Hid (Below w.heap.size w W1) := Lib.hid (by rw [← hW1]; exact hB.out.alloc hB.out.size _)
      have hone : CBlk 27 W1 W.heap.size [.string ⟨t.toArray⟩, .bool g] := by rw [← hW1]; exact CBlk.new _ W _
      have hI1 : Hid (BIs w.heap.size w.heap.size (Lib.byteCells O) W1) := Lib.hid (by rw [← hW1]; exact hI.out.below ((Below.refl _ W).alloc (Nat.le_refl _) _))
      obtain ⟨o0, o1⟩ := hone.cells2
      have HO1 := Lib.hid hone
      clear hI hB hone
      go_upto_region 5 with fail
      clear hW1
      cases g
      · have hres : Hid (R = ([], 3)) := Lib.hid (by rw [← hp.out, hat]; rfl)
        clear hat
        go_wp2_with fail
        go_ret2
        exact ⟨by rw [hres.out]; rfl, hB1.out⟩
      · obtain ⟨q, hq⟩ : ∃ q, goodB t = q := ⟨_, rfl⟩
        have HQ := Lib.hid hq
        have hok : okLn ⟨t, true⟩ = q := hq
        rw [hok] at hat
        clear hq hok
        cases q
        · have hres : Hid (R = ([], 3)) := Lib.hid (by rw [← hp.out, hat]; rfl)
          clear hat
          go_wp2_with fail
          refine (isClean_any t hfs _).mono ?_
          rintro e w' ⟨rfl, hb⟩
          rw [HQ.out]
          have hB2 := Lib.hid (hB1.out.trans (hb.mono hB1.out.size))
          clear hb
          go_wp2_with fail
          go_ret2
          exact ⟨by rw [hres.out]; rfl, hB2.out⟩
        · have hnext : Hid (goJ (O ++ t ++ [13, 10]) (L.drop (k + 1)) = R) := Lib.hid (by rw [← hp.out, hat, if_pos rfl])
          have hO2 : (O ++ t ++ [13, 10]).length ≤ (k + 1) * 1000002 := by simp; omega
          clear hat
          go_wp2_with fail
          refine (isClean_any t hfs _).mono ?_
          rintro e w2 ⟨rfl, hb⟩
          rw [HQ.out]
          have hB2 := Lib.hid (hB1.out.trans (hb.mono hB1.out.size))
          have hI2 := Lib.hid (hI1.out.below hb)
          have h2 := HO1.out.below hb HO1.out.lt
          obtain ⟨o0, o1⟩ := h2.cells2
          clear hb h2 HO1 hI1 hB1
          go_wp2_with fail
          refine (writeString_any w.heap.size w.heap.size (Lib.byteCells O) t _ hI2.out (by rw [Lib.byteCells_length]; omega) hB2.out.size).mono ?_
          rintro e w3 ⟨rfl, hI3, hb3⟩
          have HI3 := Lib.hid hI3
          have HB3 := Lib.hid (hB2.out.trans hb3)
          clear hI3 hb3 hI2 hB2
          go_wp2_with fail
          refine (writeString_any w.heap.size w.heap.size (Lib.byteCells O ++ Lib.byteCells t) [13, 10] _ (.inr HI3.out) (by rw [List.length_append, Lib.byteCells_length, Lib.byteCells_length]; simp; omega) HB3.out.size).mono ?_
          rintro e w4 ⟨rfl, hI4, hb4⟩
          have HI4 : Hid (BIs w.heap.size w.heap.size (Lib.byteCells (O ++ t ++ [13, 10])) w4) := Lib.hid (by rw [byteCells_append, byteCells_append]; exact .inr hI4)
          have HB4 := Lib.hid (HB3.out.trans hb4)
          clear hI4 hb4 HI3 HB3
          go_wp2_with fail
          go_roundw
          case rel => exact ⟨k + 1, O ++ t ++ [13, 10], by omega, by go_num, hO2, hnext, HI4, HB4⟩
          case measure => simp [intOf]; omega
    · have h1 : decide ((k : Int) < (L.length : Int)) = false := decide_eq_false (by omega)
      obtain rfl : k = L.length := by omega
      have hres : Hid (R = (O, 0)) := Lib.hid (by rw [← hp.out, List.drop_length]; rfl)
      go_wp2_with fail
      refine (bstring_any w.heap.size w.heap.size O _ hI.out hB.out.size).mono ?_
      rintro e w2 ⟨rfl, hb⟩
      go_wp2_with fail
      go_ret2
      exact ⟨by rw [hres.out]; rfl, hB.out.trans hb⟩
end Go.Proofs.Ytfagjhadfonhdaa
