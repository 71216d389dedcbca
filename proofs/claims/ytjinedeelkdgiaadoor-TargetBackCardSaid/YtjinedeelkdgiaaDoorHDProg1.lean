/-
  The program's small functions: what is a path, open, a dot segment, a name; parts, withoutTop, and build, for every text shorter than 1000000 bytes.
  The program's add, build and fits, for lists shorter than 100000 of texts shorter than 100000 bytes.
  The program's fits and Make, for lists shorter than 49000 of texts shorter than 49000 bytes.
-/
import Derived.Test.YtjinedeelkdgiaaDoorHGDIter
import Derived.Test.YtjinedeelkdgiaaDoorHGDBuild
import Derived.Test.YtjinedeelkdgiaaDoorHDPure
namespace Go.Proofs.YtjinedeelkdgiaaDoor
open Go.RowKit
theorem path_prefix (p : List UInt8) : ([47] : List UInt8).isPrefixOf p = pathB p := by
  cases p with
  | nil => rfl
  | cons c r =>
    show ((47 == c) && true) = (c.toNat == 47)
    rw [Bool.and_true, Bool.eq_iff_iff, beq_iff_eq, beq_iff_eq]
    constructor
    · rintro rfl
      rfl
    · intro h
      exact (UInt8.toNat_inj.1 h).symm
set_option maxHeartbeats 1000000 in
theorem isPath_any (p : List UInt8) (w : World) :
    Calls Tryd.prog 64 #[.string ⟨p.toArray⟩] w fun e w' => e = .returned (.bool (pathB p)) ∧ w = w' := by
  have HP := Lib.hid (path_prefix p)
  go_enter Tryd.func64, Tryd.ntmps64
  go_wp2_with fail
  refine (prefix_any p [47] _).mono ?_
  rintro e w' ⟨rfl, rfl⟩
  rw [HP.out]
  go_wp2_with fail
  go_ret
  exact ⟨rfl, rfl⟩
set_option maxHeartbeats 1000000 in
theorem isDots_any (x : List UInt8) (w : World) :
    Calls Tryd.prog 67 #[.string ⟨x.toArray⟩] w fun e w' => e = .returned (.bool (dotB x)) ∧ w = w' := by
  obtain ⟨a, ha⟩ : ∃ a, (x == [46]) = a := ⟨_, rfl⟩
  obtain ⟨b, hb⟩ : ∃ b, (x == [46, 46]) = b := ⟨_, rfl⟩
  have HD : Hid (dotB x = (a || b)) := Lib.hid (by unfold dotB; rw [ha, hb])
  cases a <;> cases b <;>
  · go_enter Tryd.func67, Tryd.ntmps67
    go_wp2_with fail
    go_ret
    exact ⟨by rw [HD.out]; rfl, rfl⟩
theorem index_contains : ∀ l : List UInt8, decide (0 ≤ Lib.indexByte l 47) = l.contains 47
  | [] => rfl
  | c :: r => by
    have ih := index_contains r
    have hg := Lib.indexByte_ge r 47
    unfold Lib.indexByte
    rw [List.contains_cons]
    by_cases hc : c = 47
    · subst hc
      simp
    · rw [show (c == 47) = false by simpa using hc, show (47 == c) = false by simpa using fun e => hc e.symm, Bool.false_or, ← ih]
      by_cases h : Lib.indexByte r 47 = -1
      · rw [h]; rfl
      · rw [if_neg (by simp), if_neg (by simpa using h)]
        rw [decide_eq_decide]
        omega
set_option maxHeartbeats 1000000 in
theorem parts_any (p : List UInt8) (hp : 0 < p.length) (hl : p.length < 1000000) (w : World) :
    Calls Tryd.prog 66 #[.string ⟨p.toArray⟩] w fun e w' => e = .returned (.func (.func 106) #[] #[.pointer (some ⟨w.heap.size + 1, 0, none⟩), .pointer (some ⟨w.heap.size, 0, none⟩), .pointer (some ⟨w.heap.size + 2, 0, none⟩)]) ∧
      w' = ((w.alloc (.cells #[.string ⟨(p.drop 1).toArray⟩] 9)).alloc (.cells #[.string ⟨#[47]⟩] 9)).alloc (.cells #[.int .i64 0] 3) := by
  have e2 := ba_snd p 1
  have hb : (1 : Int) ≤ (p.length : Int) := by omega
  obtain ⟨X, hX⟩ : ∃ X, p.drop 1 = X := ⟨_, rfl⟩
  rw [hX] at e2 ⊢
  clear hX
  go_enter Tryd.func66, Tryd.ntmps66
  go_wp2_with fail
  refine (splitSeq_any X _).mono ?_
  rintro e w' ⟨rfl, rfl⟩
  go_wp2_with fail
  go_ret
  exact ⟨rfl, rfl⟩
set_option maxHeartbeats 1000000 in
theorem withoutTop_any (p : Option Addr) (n m c : Nat) (hm : m = n + 1) (hc : m ≤ c) (hs : m < 1000000) (hp : p ≠ none) (w : World) :
    Calls Tryd.prog 96 #[.slice p m c] w fun e w' => e = .returned (.slice p n c) ∧ w = w' := by
  cases p with
  | none => exact absurd rfl hp
  | some ad =>
    have q1 : IntKind.i64.wrap ((m : Int) - 1) = (n : Int) := by rw [IntKind.wrap_i64]; omega
    have q3 : (n : Int) ≤ (c : Int) := by omega
    have q4 : n ≤ c := by omega
    have q5 : m - 1 = n := by omega
    clear hm hp
    go_enter Tryd.func96, Tryd.ntmps96
    go_wp2_with fail
    go_ret
    exact ⟨rfl, rfl⟩
end Go.Proofs.YtjinedeelkdgiaaDoor
namespace Go.Proofs.YtjinedeelkdgiaaDoor
open Go.RowKit
theorem byteCells_append (a b : List UInt8) : Lib.byteCells (a ++ b) = Lib.byteCells a ++ Lib.byteCells b := by simp [Lib.byteCells]
theorem d_BIs.below {B b : Nat} {bs : List Value} {w w' : World} (h : d_BIs B b bs w) (hb : Below w.heap.size w w') : d_BIs B b bs w' := by
  rcases h with ⟨hB, v, h1, h2, h3⟩ | ⟨hB, v, h1, h2, h3⟩
  · exact .inl ⟨hB, v, (hb.block b (lt_of_block h1)).trans h1, own_belowR h2 hb, h3⟩
  · exact .inr ⟨hB, v, (hb.block b (lt_of_block h1)).trans h1, own_belowR h2 hb, h3⟩
set_option maxRecDepth 100000 in
set_option maxHeartbeats 2000000 in
theorem add_any (B b : Nat) (O x : List UInt8) (hO : O.length < 20000000000) (hx : x.length < 1000000) (w : World) (h : d_BIs B b (Lib.byteCells O) w) (hBw : B ≤ w.heap.size) :
    Calls Tryd.prog 104 #[.pointer (some ⟨b, 0, none⟩), .string ⟨x.toArray⟩] w fun e w' => e = .returned (.tuple #[]) ∧ d_BIs B b (Lib.byteCells (O ++ 47 :: x)) w' ∧ Below B w w' := by
  have hw1 := writeString_any B b (Lib.byteCells O) [47] w h (by rw [Lib.byteCells_length]; simp; omega) hBw
  rw [← byteCells_append] at hw1
  have hlen : (O ++ [47]).length < 20000000001 := by simp; omega
  have HE : Hid (O ++ 47 :: x = O ++ [47] ++ x) := Lib.hid (by simp)
  obtain ⟨O2, hO2⟩ : ∃ O2, O ++ [47] = O2 := ⟨_, rfl⟩
  rw [hO2] at hw1 hlen HE
  have HW1 := Lib.hid hw1
  clear hw1 hO2
  go_enter Tryd.func104, Tryd.ntmps104
  go_wp2_with fail
  refine HW1.out.mono ?_
  rintro e w1 ⟨rfl, h1, hb1⟩
  have hw2 := writeString_any B b (Lib.byteCells O2) x w1 (.inr h1) (by rw [Lib.byteCells_length]; omega) (Nat.le_trans hBw hb1.size)
  rw [← byteCells_append] at hw2
  have HW2 := Lib.hid hw2
  clear hw2 h1
  go_wp2_with fail
  refine HW2.out.mono ?_
  rintro e w2 ⟨rfl, h2, hb2⟩
  go_wp2_with fail
  go_end0
  refine ⟨rfl, ?_, hb1.trans hb2⟩
  rw [HE.out]
  exact .inr h2
set_option maxRecDepth 100000 in
set_option maxHeartbeats 4000000 in
theorem build_any (L : List (List UInt8)) (o : Bool) (hn : L.length < 100000) (hL : ∀ x ∈ L, x.length < 100000) (v : Value) (w : World) (hv : StrsAt w v L) :
    Calls Tryd.prog 97 #[v, .bool o] w fun e w' => e = .returned (.string ⟨(putL L o).toArray⟩) ∧ Below w.heap.size w w' := by
  obtain ⟨p, c, rfl, hC⟩ := hv
  have HC := Lib.hid hC
  have HL := Lib.hid hL
  have H0 : Hid (flatL (L.take 0) = []) := Lib.hid rfl
  obtain ⟨W0, hW0⟩ : ∃ W0, w.alloc (.cells #[.pointer none, .slice none 0 0] 126) = W0 := ⟨_, rfl⟩
  have HB0 : Hid (Below w.heap.size w W0) := Lib.hid (by rw [← hW0]; exact (Below.refl _ _).alloc (Nat.le_refl _) _)
  have HI0 : Hid (d_BIs w.heap.size w.heap.size (Lib.byteCells []) W0) := Lib.hid (by
    rw [← hW0]
    exact .inl ⟨Nat.le_refl _, .slice none 0 0, heap_alloc_new w _, World.ownsRow_nil _ _ _ _, by simp [Value.ownBlock]⟩)
  clear hC hL
  go_enter Tryd.func97, Tryd.ntmps97
  go_upto_region 2 with fail
  clear hW0
  go_wp2_with fail
  go_loopw [10] (fun i wr => ∃ (k : Nat) (O : List UInt8), k ≤ L.length ∧ i = .int .i64 k ∧ O.length ≤ k * 100002 ∧ Hid (flatL (L.take k) = O) ∧ Hid (d_BIs w.heap.size w.heap.size (Lib.byteCells O) wr) ∧ Hid (Below w.heap.size w wr)) (fun i _ => L.length - (intOf i).toNat)
  case atStart => exact ⟨0, [], Nat.zero_le _, rfl, Nat.zero_le _, H0, HI0, HB0⟩
  case round =>
    clear H0 HI0 HB0
    obtain ⟨k, O, hk, rfl, hO, hp, hI, hB⟩ := hrel
    rename World => W
    by_cases hlt : k < L.length
    · have h1 : decide ((k : Int) < (L.length : Int)) = true := decide_eq_true (by omega)
      have hb2 : (k : Int) < (L.length : Int) := by omega
      obtain ⟨b, off, rfl, hbl, hcell⟩ := str_cell HC.out (Below.refl _ _) hlt
      have hcell := (hB.out.cell (p := ⟨b, off + k, none⟩) hbl).trans hcell
      have hxl := HL.out _ (List.getElem_mem hlt)
      have hat : flatL (L.take (k + 1)) = O ++ 47 :: L[k] := by
        rw [List.take_succ_eq_append_getElem hlt, flat_append, hp.out]
        simp [flatL]
      obtain ⟨x, hx⟩ : ∃ x, L[k] = x := ⟨_, rfl⟩
      rw [hx] at hat hxl hcell
      have HADD := Lib.hid (add_any w.heap.size w.heap.size O x (by omega) (by omega) W hI.out hB.out.size)
      obtain ⟨O2, hO2⟩ : ∃ O2, O ++ 47 :: x = O2 := ⟨_, rfl⟩
      have hO2l : O2.length ≤ (k + 1) * 100002 := by rw [← hO2]; simp; omega
      rw [hO2] at hat HADD
      have hnext : Hid (flatL (L.take (k + 1)) = O2) := Lib.hid hat
      clear hat hx hO2
      go_wp2_with fail
      refine HADD.out.mono ?_
      rintro e w2 ⟨rfl, hI2, hb⟩
      have HI2 := Lib.hid hI2
      have HB2 := Lib.hid (hB.out.trans hb)
      clear hI2 hb
      go_wp2_with fail
      go_roundw
      case rel => exact ⟨k + 1, O2, by omega, by go_num, hO2l, hnext, HI2, HB2⟩
      case measure => simp [intOf]; omega
    · have h1 : decide ((k : Int) < (L.length : Int)) = false := decide_eq_false (by omega)
      have hF : flatL L = O := by rw [← hp.out, List.take_of_length_le (by omega)]
      obtain ⟨b, hb⟩ : ∃ b, (L == []) = b := ⟨_, rfl⟩
      have hb3 : ((L.length : Int) == 0) = b := by
        rw [← hb, Bool.eq_iff_iff, beq_iff_eq, beq_iff_eq]
        constructor
        · intro e; exact List.eq_nil_of_length_eq_zero (by omega)
        · intro e; rw [e]; rfl
      have HR : Hid (putL L o = O ++ (if o || b then [47] else [])) := Lib.hid (by unfold putL; rw [hF, hb])
      have HW := Lib.hid (writeString_any w.heap.size w.heap.size (Lib.byteCells O) [47] W hI.out (by rw [Lib.byteCells_length]; simp; omega) hB.out.size)
      clear hF hb
      cases o with
      | true =>
        go_wp2_with fail
        refine HW.out.mono ?_
        rintro e w2 ⟨rfl, h2, hb2⟩
        rw [← byteCells_append] at h2
        have HB2 := Lib.hid (hB.out.trans hb2)
        have HS := Lib.hid (d_string_any w.heap.size w.heap.size (O ++ [47]) w2 (.inr h2) HB2.out.size)
        clear h2 hb2
        go_wp2_with fail
        refine HS.out.mono ?_
        rintro e w3 ⟨rfl, hb4⟩
        have HB4 := Lib.hid (HB2.out.trans hb4)
        clear hb4
        go_wp2_with fail
        go_ret
        exact ⟨by rw [HR.out]; rfl, HB4.out⟩
      | false =>
        cases b with
        | true =>
          go_wp2_with fail
          refine HW.out.mono ?_
          rintro e w2 ⟨rfl, h2, hb2⟩
          rw [← byteCells_append] at h2
          have HB2 := Lib.hid (hB.out.trans hb2)
          have HS := Lib.hid (d_string_any w.heap.size w.heap.size (O ++ [47]) w2 (.inr h2) HB2.out.size)
          clear h2 hb2
          go_wp2_with fail
          refine HS.out.mono ?_
          rintro e w3 ⟨rfl, hb4⟩
          have HB4 := Lib.hid (HB2.out.trans hb4)
          clear hb4
          go_wp2_with fail
          go_ret
          exact ⟨by rw [HR.out]; rfl, HB4.out⟩
        | false =>
          have HS := Lib.hid (d_string_any w.heap.size w.heap.size O W hI.out hB.out.size)
          go_wp2_with fail
          refine HS.out.mono ?_
          rintro e w3 ⟨rfl, hb4⟩
          have HB4 := Lib.hid (hB.out.trans hb4)
          clear hb4
          go_wp2_with fail
          go_ret
          exact ⟨by rw [HR.out]; simp, HB4.out⟩
end Go.Proofs.YtjinedeelkdgiaaDoor
namespace Go.Proofs.YtjinedeelkdgiaaDoor
open Go.RowKit
theorem flat_take (L : List (List UInt8)) (k : Nat) : (flatL (L.take k)).length ≤ (flatL L).length := by
  have h := flat_append (L.take k) (L.drop k)
  rw [List.take_append_drop] at h
  rw [h, List.length_append]
  omega
theorem put_fit (L : List (List UInt8)) (o : Bool) : decide ((putL L o).length ≤ 128) = decide ((flatL L).length + (if o then 1 else 0) ≤ 128) := by
  unfold putL
  rw [decide_eq_decide, List.length_append]
  cases o with
  | true => simp
  | false =>
    cases L with
    | nil => simp [flatL]
    | cons x r => simp
end Go.Proofs.YtjinedeelkdgiaaDoor
