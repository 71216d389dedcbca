/-
  The law RowBlanks returns true for every input.
-/
import Derived.Test.YtacceiloggnekaaDoorRPure3
import Derived.Test.YtacceiloggnekaaDoorRBackP
import Derived.Test.YtacceiloggnekaaDoorRHelp
import Derived.Laws.AppendOwnNone
namespace Go.Proofs.YtacceiloggnekaaDoor
open Go.RowKit
theorem rowsPost_any {R : (Nat × Nat) ⊕ List Rw} {e : Ending} {w : World} (h : RowsPost R e w) : ∃ v x y, e = .returned (.tuple #[v, .agg #[.int .i64 x, .int .i64 y]]) := by
  cases R with
  | inl x => exact ⟨_, _, _, h⟩
  | inr rs =>
    obtain ⟨v, h, _⟩ := h
    exact ⟨v, _, _, h⟩
theorem own_cases {w : World} {base : Nat} {e : TypeId} {size n : Nat} {v : Value} {xs : List Value} (h : w.ownsRow base e size v n xs) : (v = .slice none 0 0 ∧ n = 0) ∨ ∃ g cap, v = .slice (some ⟨g, 0, none⟩) n cap := by
  rcases h.2 with ⟨h1, h2⟩ | ⟨g, cap, cur, h1, _⟩
  · exact .inl ⟨h1, h2⟩
  · exact .inr ⟨g, cap, h1⟩
theorem news_of_strs {w : World} {g n cap : Nat} {l : List (List UInt8)} (h : StrsAt w (.slice (some ⟨g, 0, none⟩) n cap) l) (j : Nat) (u : Value) (hu : (l.map strW)[j]? = some u) : w.cell? ((⟨g, 0, none⟩ : Addr).add j) = some u := by
  obtain ⟨p, c, e1, hc⟩ := h
  have hj : j < l.length := by simpa using (List.getElem?_eq_some_iff.1 hu).1
  injection e1 with e1
  subst e1
  obtain ⟨b, off, e2, -, h3⟩ := hc j (by omega)
  injection e2 with e2
  injection e2 with e3 e4
  subst e3 e4
  rw [Lib.add_plain]
  rw [h3, ← hu, List.getElem?_map, List.getElem?_eq_getElem hj]
  unfold strC
  dsimp only
  rw [List.getD_eq_getElem?_getD, List.getElem?_eq_getElem hj]
  rfl
set_option maxRecDepth 100000 in
set_option maxHeartbeats 16000000 in
theorem blanks_law (s t : List UInt8) (w : World) (hT : VT w) :
    Calls Tryd.prog 8 #[.string ⟨s.toArray⟩, .string ⟨t.toArray⟩] w fun e w' => e = .returned (.bool true) ∧ Below w.heap.size w w' := by
  have HVT := Lib.hid hT
  clear hT
  have hB := Below.refl w.heap.size w
  by_cases h1 : 400 < s.length
  · have d1 : decide ((400 : Int) < (s.length : Int)) = true := decide_eq_true (by omega)
    have d1n : decide (400 < s.length) = true := decide_eq_true h1
    go_enter Tryd.func8, Tryd.ntmps8
    go_wp2_with fail
    refine (awake_any _ (VT.below (Hid.out (by with_reducible assumption)) (by repeat' (first | (with_reducible exact Below.refl _ _) | (with_reducible assumption) | (with_reducible exact Hid.out (by with_reducible assumption)) | (with_reducible refine below_one _ ?_) | (with_reducible refine Below.drew ?_))))).mono ?_
    rintro e wz ⟨rfl, hb⟩
    have hB := hB.trans (hb.mono hB.size)
    go_wp2_with fail
    go_ret
    exact ⟨rfl, hB⟩
  have d1 : decide ((400 : Int) < (s.length : Int)) = false := decide_eq_false (by omega)
  have d1n : decide (400 < s.length) = false := decide_eq_false h1
  by_cases h2 : 400 < t.length
  · have d2 : decide ((400 : Int) < (t.length : Int)) = true := decide_eq_true (by omega)
    have d2n : decide (400 < t.length) = true := decide_eq_true h2
    go_enter Tryd.func8, Tryd.ntmps8
    go_wp2_with fail
    refine (awake_any _ (VT.below (Hid.out (by with_reducible assumption)) (by repeat' (first | (with_reducible exact Below.refl _ _) | (with_reducible assumption) | (with_reducible exact Hid.out (by with_reducible assumption)) | (with_reducible refine below_one _ ?_) | (with_reducible refine Below.drew ?_))))).mono ?_
    rintro e wz ⟨rfl, hb⟩
    have hB := hB.trans (hb.mono hB.size)
    go_wp2_with fail
    go_ret
    exact ⟨rfl, hB⟩
  have d2 : decide ((400 : Int) < (t.length : Int)) = false := decide_eq_false (by omega)
  have d2n : decide (400 < t.length) = false := decide_eq_false h2
  have g1 := fun W (hW : VT W) => rows_any s (by omega) W hW
  have g2 := fun W (hW : VT W) => rows_any t (by omega) W hW
  cases hs : rowsL s with
  | inl x =>
    obtain ⟨a, b⟩ := x
    have ha := rowsL_err hs
    dsimp only at ha
    have da : ((a : Int) != 0) = true := by rw [bne_iff_ne]; omega
    rw [hs] at g1
    have G1 := Lib.hid g1
    have G2 := Lib.hid g2
    clear g1 g2 hs ha
    go_enter Tryd.func8, Tryd.ntmps8
    go_wp2_with fail
    refine (G1.out _ (VT.below (Hid.out (by with_reducible assumption)) (by repeat' (first | (with_reducible exact Below.refl _ _) | (with_reducible assumption) | (with_reducible exact Hid.out (by with_reducible assumption)) | (with_reducible refine below_one _ ?_) | (with_reducible refine Below.drew ?_))))).mono ?_
    rintro e x1 ⟨hx, hb⟩
    have hx : e = .returned (.tuple #[.slice none 0 0, .agg #[.int .i64 (a : Int), .int .i64 (b : Int)]]) := hx
    subst hx
    have hB := hB.trans (hb.mono hB.size)
    clear hb
    have hal := (Below.refl x1.heap.size x1).alloc (Nat.le_refl _) (.cells #[.int .i64 (a : Int), .int .i64 (b : Int)] 26)
    have hB : Below w.heap.size w (x1.alloc (.cells #[.int .i64 (a : Int), .int .i64 (b : Int)] 26)) := hB.alloc hB.size _
    have rA := CBlk.new 26 x1 [.int .i64 (a : Int), .int .i64 (b : Int)]
    go_wp2_with fail
    refine (G2.out _ (VT.below (Hid.out (by with_reducible assumption)) (by repeat' (first | (with_reducible exact Below.refl _ _) | (with_reducible assumption) | (with_reducible exact Hid.out (by with_reducible assumption)) | (with_reducible refine below_one _ ?_) | (with_reducible refine Below.drew ?_))))).mono ?_
    rintro e x2 ⟨hx, hb⟩
    obtain ⟨vq, xq, yq, rfl⟩ := rowsPost_any hx
    clear hx
    have hB := hB.trans (hb.mono hB.size)
    have rA := rA.below hb rA.lt
    clear hb
    have hal := (Below.refl x2.heap.size x2).alloc (Nat.le_refl _) (.cells #[.int .i64 xq, .int .i64 yq] 26)
    have hB : Below w.heap.size w (x2.alloc (.cells #[.int .i64 xq, .int .i64 yq] 26)) := hB.alloc hB.size _
    have rA := rA.alloc (.cells #[.int .i64 xq, .int .i64 yq] 26)
    have rB := CBlk.new 26 x2 [.int .i64 xq, .int .i64 yq]
    obtain ⟨rA0, rA1⟩ := rA.cells2
    obtain ⟨rB0, rB1⟩ := rB.cells2
    go_wp2_with fail
    refine (awake_any _ (VT.below (Hid.out (by with_reducible assumption)) (by repeat' (first | (with_reducible exact Below.refl _ _) | (with_reducible assumption) | (with_reducible exact Hid.out (by with_reducible assumption)) | (with_reducible refine below_one _ ?_) | (with_reducible refine Below.drew ?_))))).mono ?_
    rintro e wz ⟨rfl, hb⟩
    have hB := hB.trans (hb.mono hB.size)
    go_wp2_with fail
    go_ret
    exact ⟨rfl, hB⟩
  | inr ra =>
    cases ht : rowsL t with
    | inl x =>
      obtain ⟨a, b⟩ := x
      have ha := rowsL_err ht
      dsimp only at ha
      have da : ((a : Int) != 0) = true := by rw [bne_iff_ne]; omega
      rw [hs] at g1
      rw [ht] at g2
      have G1 := Lib.hid g1
      have G2 := Lib.hid g2
      clear g1 g2 hs ht ha
      go_enter Tryd.func8, Tryd.ntmps8
      go_wp2_with fail
      refine (G1.out _ (VT.below (Hid.out (by with_reducible assumption)) (by repeat' (first | (with_reducible exact Below.refl _ _) | (with_reducible assumption) | (with_reducible exact Hid.out (by with_reducible assumption)) | (with_reducible refine below_one _ ?_) | (with_reducible refine Below.drew ?_))))).mono ?_
      rintro e x1 ⟨⟨va, rfl, hva⟩, hb⟩
      have hB := hB.trans (hb.mono hB.size)
      clear hb
      have HVa := Lib.hid hva
      obtain ⟨pa, ca, csa, rfl, -, -⟩ := hva
      have hal := (Below.refl x1.heap.size x1).alloc (Nat.le_refl _) (.cells #[.int .i64 0, .int .i64 0] 26)
      have hB : Below w.heap.size w (x1.alloc (.cells #[.int .i64 0, .int .i64 0] 26)) := hB.alloc hB.size _
      have HVa := Lib.hid (HVa.out.below hal (Nat.le_refl _))
      have rA := CBlk.new 26 x1 [.int .i64 0, .int .i64 0]
      go_wp2_with fail
      refine (G2.out _ (VT.below (Hid.out (by with_reducible assumption)) (by repeat' (first | (with_reducible exact Below.refl _ _) | (with_reducible assumption) | (with_reducible exact Hid.out (by with_reducible assumption)) | (with_reducible refine below_one _ ?_) | (with_reducible refine Below.drew ?_))))).mono ?_
      rintro e x2 ⟨hx, hb⟩
      have hx : e = .returned (.tuple #[.slice none 0 0, .agg #[.int .i64 (a : Int), .int .i64 (b : Int)]]) := hx
      subst hx
      have hB := hB.trans (hb.mono hB.size)
      have HVa := Lib.hid (HVa.out.below hb (Nat.le_refl _))
      have rA := rA.below hb rA.lt
      clear hb
      have hal := (Below.refl x2.heap.size x2).alloc (Nat.le_refl _) (.cells #[.int .i64 (a : Int), .int .i64 (b : Int)] 26)
      have hB : Below w.heap.size w (x2.alloc (.cells #[.int .i64 (a : Int), .int .i64 (b : Int)] 26)) := hB.alloc hB.size _
      have HVa := Lib.hid (HVa.out.below hal (Nat.le_refl _))
      have rA := rA.alloc (.cells #[.int .i64 (a : Int), .int .i64 (b : Int)] 26)
      have rB := CBlk.new 26 x2 [.int .i64 (a : Int), .int .i64 (b : Int)]
      obtain ⟨rA0, rA1⟩ := rA.cells2
      obtain ⟨rB0, rB1⟩ := rB.cells2
      go_wp2_with fail
      refine (awake_any _ (VT.below (Hid.out (by with_reducible assumption)) (by repeat' (first | (with_reducible exact Below.refl _ _) | (with_reducible assumption) | (with_reducible exact Hid.out (by with_reducible assumption)) | (with_reducible refine below_one _ ?_) | (with_reducible refine Below.drew ?_))))).mono ?_
      rintro e wz ⟨rfl, hb⟩
      have hB := hB.trans (hb.mono hB.size)
      go_wp2_with fail
      go_ret
      exact ⟨rfl, hB⟩
    | inr rb =>
      obtain ⟨rm, hm, em⟩ := blanks_more (by omega) (by omega) hs ht
      obtain ⟨ro, ho, eo⟩ := blanks_both (by omega) (by omega) hs ht
      have za := (rowsL_small hs).1
      have zb := (rowsL_small ht).1
      have zm := rowsL_small hm
      have zo := rowsL_small ho
      have na := textsL_len ra 1001 fun r hr => by have := (za.2 r hr).2.1; omega
      have nb := textsL_len rb 1001 fun r hr => by have := (zb.2 r hr).2.1; omega
      have hna : (textsL ra).length ≤ 400 * 1001 := Nat.le_trans na (Nat.mul_le_mul_right _ (by have := za.1; omega))
      have hnb : (textsL rb).length ≤ 400 * 1001 := Nat.le_trans nb (Nat.mul_le_mul_right _ (by have := zb.1; omega))
      have hra : ra.length < 100000 := by have := za.1; omega
      have hrb : rb.length < 100000 := by have := zb.1; omega
      have hrm : rm.length < 100000 := by have := zm.1.1; omega
      have hro : ro.length < 100000 := by have := zo.1.1; omega
      have HWa := Lib.hid za.words
      have HWb := Lib.hid zb.words
      have HWm := Lib.hid zm.1.words
      have HWo := Lib.hid zo.1.words
      have hT : (textsL ra ++ textsL rb).length < 1000000 := by rw [List.length_append]; omega
      obtain ⟨TT, eT⟩ : ∃ T, textsL ra ++ textsL rb = T := ⟨_, rfl⟩
      rw [eT] at em eo hT
      have ET := Lib.hid eT
      have HNab := Lib.hid hT
      clear eT hT
      have EM := Lib.hid em
      have EO := Lib.hid eo
      have l1 : ([32, 9] ++ s).length ≤ 402 := by simp; omega
      have l2 : ([32, 9] ++ s ++ tail1).length ≤ 420 := by simp [tail1]; omega
      have l3 : ([32, 9] ++ s ++ tail1 ++ t).length ≤ 820 := by simp [tail1]; omega
      have l4 : ([32, 9] ++ s ++ tail1 ++ t ++ tail2).length ≤ 828 := by simp [tail1, tail2]; omega
      have l5 : (s ++ [10]).length ≤ 401 := by simp; omega
      have l6 : (s ++ [10] ++ t).length ≤ 801 := by simp; omega
      have s1 : ∀ w, (Op.stringOp .add ⟨#[32, 9]⟩ ⟨s.toArray⟩).run Tryd.prog w = .ok (.string ⟨([32, 9] ++ s).toArray⟩) w := fun w => str_add [32, 9] s (by unfold Small; simp; omega)
      obtain ⟨L1, e1⟩ : ∃ L, [32, 9] ++ s = L := ⟨_, rfl⟩
      rw [e1] at s1 l1 l2 l3 l4 hm
      have s2 : ∀ w, (Op.stringOp .add ⟨L1.toArray⟩ ⟨#[10, 9, 35, 32, 34, 32, 110, 111, 32, 119, 111, 114, 100, 10, 32, 10, 32, 32]⟩).run Tryd.prog w = .ok (.string ⟨(L1 ++ tail1).toArray⟩) w := fun w => str_add L1 tail1 (by unfold Small; simp [tail1]; omega)
      obtain ⟨L2, e2⟩ : ∃ L, L1 ++ tail1 = L := ⟨_, rfl⟩
      rw [e2] at s2 l2 l3 l4 hm
      have s3 : ∀ w, (Op.stringOp .add ⟨L2.toArray⟩ ⟨t.toArray⟩).run Tryd.prog w = .ok (.string ⟨(L2 ++ t).toArray⟩) w := fun w => str_add L2 t (by unfold Small; omega)
      obtain ⟨L3, e3⟩ : ∃ L, L2 ++ t = L := ⟨_, rfl⟩
      rw [e3] at s3 l3 l4 hm
      have s4 : ∀ w, (Op.stringOp .add ⟨L3.toArray⟩ ⟨#[32, 35, 32, 97, 110, 100, 32, 34]⟩).run Tryd.prog w = .ok (.string ⟨(L3 ++ tail2).toArray⟩) w := fun w => str_add L3 tail2 (by unfold Small; simp [tail2]; omega)
      obtain ⟨L4, e4⟩ : ∃ L, L3 ++ tail2 = L := ⟨_, rfl⟩
      rw [e4] at s4 l4 hm
      have s5 : ∀ w, (Op.stringOp .add ⟨s.toArray⟩ ⟨#[10]⟩).run Tryd.prog w = .ok (.string ⟨(s ++ [10]).toArray⟩) w := fun w => str_add s [10] (by unfold Small; simp; omega)
      obtain ⟨B1, e5⟩ : ∃ L, s ++ [10] = L := ⟨_, rfl⟩
      rw [e5] at s5 l5 l6 ho
      have s6 : ∀ w, (Op.stringOp .add ⟨B1.toArray⟩ ⟨t.toArray⟩).run Tryd.prog w = .ok (.string ⟨(B1 ++ t).toArray⟩) w := fun w => str_add B1 t (by unfold Small; omega)
      obtain ⟨B2, e6⟩ : ∃ L, B1 ++ t = L := ⟨_, rfl⟩
      rw [e6] at s6 l6 ho
      have g3 := fun W (hW : VT W) => rows_any L4 (by omega) W hW
      have g4 := fun W (hW : VT W) => rows_any B2 (by omega) W hW
      rw [hs] at g1
      rw [ht] at g2
      rw [hm] at g3
      rw [ho] at g4
      have G1 := Lib.hid g1
      have G2 := Lib.hid g2
      have G3 := Lib.hid g3
      have G4 := Lib.hid g4
      clear g1 g2 g3 g4 hs ht hm ho em eo za zb zm zo na nb e1 e2 e3 e4 e5 e6
      obtain ⟨i0, hi, hz0, hz1, hz2⟩ := info_parts infoS4
      go_enter Tryd.func8, Tryd.ntmps8
      go_wp2_with fail
      refine (G1.out _ (VT.below (Hid.out (by with_reducible assumption)) (by repeat' (first | (with_reducible exact Below.refl _ _) | (with_reducible assumption) | (with_reducible exact Hid.out (by with_reducible assumption)) | (with_reducible refine below_one _ ?_) | (with_reducible refine Below.drew ?_))))).mono ?_
      rintro e x1 ⟨⟨va, rfl, hva⟩, hb⟩
      have hB := hB.trans (hb.mono hB.size)
      clear hb
      have HVa := Lib.hid hva
      obtain ⟨pa, ca, csa, rfl, -, -⟩ := hva
      have hal := (Below.refl x1.heap.size x1).alloc (Nat.le_refl _) (.cells #[.int .i64 0, .int .i64 0] 26)
      have hB : Below w.heap.size w (x1.alloc (.cells #[.int .i64 0, .int .i64 0] 26)) := hB.alloc hB.size _
      have HVa := Lib.hid (HVa.out.below hal (Nat.le_refl _))
      have rA := CBlk.new 26 x1 [.int .i64 0, .int .i64 0]
      go_wp2_with fail
      refine (G2.out _ (VT.below (Hid.out (by with_reducible assumption)) (by repeat' (first | (with_reducible exact Below.refl _ _) | (with_reducible assumption) | (with_reducible exact Hid.out (by with_reducible assumption)) | (with_reducible refine below_one _ ?_) | (with_reducible refine Below.drew ?_))))).mono ?_
      rintro e x2 ⟨⟨vb, rfl, hvb⟩, hb⟩
      have hB := hB.trans (hb.mono hB.size)
      have HVa := Lib.hid (HVa.out.below hb (Nat.le_refl _))
      have rA := rA.below hb rA.lt
      clear hb
      have HVb := Lib.hid hvb
      obtain ⟨pb, cb, csb, rfl, -, -⟩ := hvb
      have hal := (Below.refl x2.heap.size x2).alloc (Nat.le_refl _) (.cells #[.int .i64 0, .int .i64 0] 26)
      have hB : Below w.heap.size w (x2.alloc (.cells #[.int .i64 0, .int .i64 0] 26)) := hB.alloc hB.size _
      have HVa := Lib.hid (HVa.out.below hal (Nat.le_refl _))
      have HVb := Lib.hid (HVb.out.below hal (Nat.le_refl _))
      have rA := rA.alloc (.cells #[.int .i64 0, .int .i64 0] 26)
      have rB := CBlk.new 26 x2 [.int .i64 0, .int .i64 0]
      obtain ⟨rA0, rA1⟩ := rA.cells2
      obtain ⟨rB0, rB1⟩ := rB.cells2
      go_wp2_with fail
      clear rA0 rA1
      clear rB0 rB1
      refine (G3.out _ (VT.below (Hid.out (by with_reducible assumption)) (by repeat' (first | (with_reducible exact Below.refl _ _) | (with_reducible assumption) | (with_reducible exact Hid.out (by with_reducible assumption)) | (with_reducible refine below_one _ ?_) | (with_reducible refine Below.drew ?_))))).mono ?_
      rintro e x3 ⟨⟨vm, rfl, hvm⟩, hb⟩
      have hB := hB.trans (hb.mono hB.size)
      have HVa := Lib.hid (HVa.out.below hb (Nat.le_refl _))
      have HVb := Lib.hid (HVb.out.below hb (Nat.le_refl _))
      have rA := rA.below hb rA.lt
      have rB := rB.below hb rB.lt
      clear hb
      have HVm := Lib.hid hvm
      obtain ⟨pm, cm, csm, rfl, -, -⟩ := hvm
      have hal := (Below.refl x3.heap.size x3).alloc (Nat.le_refl _) (.cells #[.int .i64 0, .int .i64 0] 26)
      have hB : Below w.heap.size w (x3.alloc (.cells #[.int .i64 0, .int .i64 0] 26)) := hB.alloc hB.size _
      have HVa := Lib.hid (HVa.out.below hal (Nat.le_refl _))
      have HVb := Lib.hid (HVb.out.below hal (Nat.le_refl _))
      have HVm := Lib.hid (HVm.out.below hal (Nat.le_refl _))
      have rA := rA.alloc (.cells #[.int .i64 0, .int .i64 0] 26)
      have rB := rB.alloc (.cells #[.int .i64 0, .int .i64 0] 26)
      have rM := CBlk.new 26 x3 [.int .i64 0, .int .i64 0]
      go_wp2_with fail
      refine (G4.out _ (VT.below (Hid.out (by with_reducible assumption)) (by repeat' (first | (with_reducible exact Below.refl _ _) | (with_reducible assumption) | (with_reducible exact Hid.out (by with_reducible assumption)) | (with_reducible refine below_one _ ?_) | (with_reducible refine Below.drew ?_))))).mono ?_
      rintro e x4 ⟨⟨vo, rfl, hvo⟩, hb⟩
      have hB := hB.trans (hb.mono hB.size)
      have HVa := Lib.hid (HVa.out.below hb (Nat.le_refl _))
      have HVb := Lib.hid (HVb.out.below hb (Nat.le_refl _))
      have HVm := Lib.hid (HVm.out.below hb (Nat.le_refl _))
      have rA := rA.below hb rA.lt
      have rB := rB.below hb rB.lt
      have rM := rM.below hb rM.lt
      clear hb
      have HVo := Lib.hid hvo
      obtain ⟨po, co, cso, rfl, -, -⟩ := hvo
      have hal := (Below.refl x4.heap.size x4).alloc (Nat.le_refl _) (.cells #[.int .i64 0, .int .i64 0] 26)
      have hB : Below w.heap.size w (x4.alloc (.cells #[.int .i64 0, .int .i64 0] 26)) := hB.alloc hB.size _
      have HVa := Lib.hid (HVa.out.below hal (Nat.le_refl _))
      have HVb := Lib.hid (HVb.out.below hal (Nat.le_refl _))
      have HVm := Lib.hid (HVm.out.below hal (Nat.le_refl _))
      have HVo := Lib.hid (HVo.out.below hal (Nat.le_refl _))
      have rA := rA.alloc (.cells #[.int .i64 0, .int .i64 0] 26)
      have rB := rB.alloc (.cells #[.int .i64 0, .int .i64 0] 26)
      have rM := rM.alloc (.cells #[.int .i64 0, .int .i64 0] 26)
      have rO := CBlk.new 26 x4 [.int .i64 0, .int .i64 0]
      obtain ⟨rA0, rA1⟩ := rA.cells2
      obtain ⟨rB0, rB1⟩ := rB.cells2
      obtain ⟨rM0, rM1⟩ := rM.cells2
      obtain ⟨rO0, rO1⟩ := rO.cells2
      go_wp2_with fail
      clear rA0 rA1
      clear rB0 rB1
      clear rM0 rM1
      clear rO0 rO1
      have hO := hB.size
      have hX := Below.refl (x4.alloc (.cells #[.int .i64 0, .int .i64 0] 26)).heap.size (x4.alloc (.cells #[.int .i64 0, .int .i64 0] 26))
      refine (texts_any ra hra HWa.out _ _ HVa.out).mono ?_
      rintro e w5 ⟨v5, rfl, hownA, hb⟩
      have hB := hB.trans (hb.mono hB.size)
      have hX := hX.trans (hb.mono hX.size)
      have tas := strs_of_own hownA
      obtain ⟨tap, tac, rfl, -⟩ := id tas
      have TA := Lib.hid tas
      have HOWN := Lib.hid hownA
      clear tas hownA hb
      go_wp2_with fail
      refine (texts_any rb hrb HWb.out _ _ (HVb.out.below hX (Nat.le_refl _))).mono ?_
      rintro e w6 ⟨v6, rfl, hownB, hb⟩
      have hB := hB.trans (hb.mono hB.size)
      have hX := hX.trans (hb.mono hX.size)
      have tbs := strs_of_own hownB
      have TA := Lib.hid (TA.out.below hb (Nat.le_refl _))
      have hownA := own_belowR HOWN.out hb
      clear hb HOWN
      rcases own_cases hownB with ⟨rfl, h0⟩ | ⟨g, cap, rfl⟩
      · have hnil : textsL rb = [] := List.eq_nil_of_length_eq_zero h0
        have TW : Hid (StrsAt w6 (.slice tap (textsL ra).length tac) TT) := Lib.hid (by rw [← ET.out, hnil, List.append_nil]; exact TA.out)
        clear h0 hnil tbs hownB
        have rM := rM.below hX rM.lt
        have rO := rO.below hX rO.lt
        obtain ⟨rM0, rM1⟩ := rM.cells2
        obtain ⟨rO0, rO1⟩ := rO.cells2
        go_wp2_with (at_builtin; refine wpList_append_own_none rfl _ _ 35 rfl _ 9 i0 1 Tryd.underlying35 hi _ _ _ rfl hownA rfl ?_)
        go_wp2_with fail
        refine (texts_any rm hrm HWm.out _ _ (HVm.out.below hX (Nat.le_refl _))).mono ?_
        rintro e w8 ⟨v8, rfl, hown8, hb⟩
        rw [EM.out] at hown8
        have hB := hB.trans (hb.mono hB.size)
        have hX := hX.trans (hb.mono hX.size)
        have tms := strs_of_own hown8
        obtain ⟨tmp, tmc, rfl, -⟩ := id tms
        have TW := Lib.hid (TW.out.below hb (Nat.le_refl _))
        clear hown8 hb
        go_wp2_with fail
        refine (sameTexts_any _ HNab.out _ _ _ tms TW.out).mono ?_
        rintro e w9 ⟨rfl, hb⟩
        have hB := hB.trans (hb.mono hB.size)
        have hX := hX.trans (hb.mono hX.size)
        have TW := Lib.hid (TW.out.below hb (Nat.le_refl _))
        clear hb tms
        go_wp2_with fail
        refine (texts_any ro hro HWo.out _ _ (HVo.out.below hX (Nat.le_refl _))).mono ?_
        rintro e w10 ⟨v10, rfl, hown10, hb⟩
        rw [EO.out] at hown10
        have hB := hB.trans (hb.mono hB.size)
        have hX := hX.trans (hb.mono hX.size)
        have tos := strs_of_own hown10
        obtain ⟨top, toc, rfl, -⟩ := id tos
        have TW := Lib.hid (TW.out.below hb (Nat.le_refl _))
        clear hown10 hb
        go_wp2_with fail
        refine (sameTexts_any _ HNab.out _ _ _ tos TW.out).mono ?_
        rintro e w11 ⟨rfl, hb⟩
        have hB := hB.trans (hb.mono hB.size)
        clear hb tos
        go_wp2_with fail
        refine (awake_any _ (VT.below (Hid.out (by with_reducible assumption)) (by repeat' (first | (with_reducible exact Below.refl _ _) | (with_reducible assumption) | (with_reducible exact Hid.out (by with_reducible assumption)) | (with_reducible refine below_one _ ?_) | (with_reducible refine Below.drew ?_))))).mono ?_
        rintro e wz ⟨rfl, hb⟩
        have hB := hB.trans (hb.mono hB.size)
        go_wp2_with fail
        go_ret
        exact ⟨rfl, hB⟩
      · have hX0 := hX.size
        have hnews : ∀ (j : Nat) u, ((textsL rb).map strW)[j]? = some u → w6.cell? ((⟨g, 0, none⟩ : Addr).add j) = some u := news_of_strs tbs
        have hone : ∀ u ∈ (textsL rb).map strW, u.oneCell' = true := fun u hu => by
          obtain ⟨x, _, rfl⟩ := List.mem_map.1 hu
          rfl
        clear tbs hownB
        go_wp2_with (at_builtin; refine wpList_append_own w6 rfl _ _ 35 rfl (x4.alloc (.cells #[.int .i64 0, .int .i64 0] 26)).heap.size 9 i0 (.string ⟨#[]⟩) 1 16 Tryd.underlying35 hi hz0 hz1 hz2 rfl (by decide) _ _ _ rfl hownA ⟨g, 0, none⟩ (textsL rb).length cap ((textsL rb).map strW) rfl (by simp) hnews hone (by unfold maxLen; omega) (by omega) hX.size ?_; intro v7 w7 hown7 hgrow _; have hX := below_grownR hX hX.size hgrow (fun r hr => (hownA.lt r hr).1); have hle : w.heap.size ≤ (x4.alloc (.cells #[.int .i64 0, .int .i64 0] 26)).heap.size := hO; have hB := below_grownR hB (Nat.le_trans hO hX0) hgrow (fun r hr => Nat.le_trans hO (hownA.lt r hr).1); rw [← List.length_append, ← List.map_append, ET.out] at hown7; have tws := strs_of_own hown7; obtain ⟨twp, twc, rfl, -⟩ := id tws; have TW := Lib.hid tws; clear tws hnews hone hownA hgrow hown7; have rM := rM.below hX rM.lt; have rO := rO.below hX rO.lt; obtain ⟨rM0, rM1⟩ := rM.cells2; obtain ⟨rO0, rO1⟩ := rO.cells2)
        go_wp2_with fail
        refine (texts_any rm hrm HWm.out _ _ (HVm.out.below hX (Nat.le_refl _))).mono ?_
        rintro e w8 ⟨v8, rfl, hown8, hb⟩
        rw [EM.out] at hown8
        have hB := hB.trans (hb.mono hB.size)
        have hX := hX.trans (hb.mono hX.size)
        have tms := strs_of_own hown8
        obtain ⟨tmp, tmc, rfl, -⟩ := id tms
        have TW := Lib.hid (TW.out.below hb (Nat.le_refl _))
        clear hown8 hb
        go_wp2_with fail
        refine (sameTexts_any _ HNab.out _ _ _ tms TW.out).mono ?_
        rintro e w9 ⟨rfl, hb⟩
        have hB := hB.trans (hb.mono hB.size)
        have hX := hX.trans (hb.mono hX.size)
        have TW := Lib.hid (TW.out.below hb (Nat.le_refl _))
        clear hb tms
        go_wp2_with fail
        refine (texts_any ro hro HWo.out _ _ (HVo.out.below hX (Nat.le_refl _))).mono ?_
        rintro e w10 ⟨v10, rfl, hown10, hb⟩
        rw [EO.out] at hown10
        have hB := hB.trans (hb.mono hB.size)
        have hX := hX.trans (hb.mono hX.size)
        have tos := strs_of_own hown10
        obtain ⟨top, toc, rfl, -⟩ := id tos
        have TW := Lib.hid (TW.out.below hb (Nat.le_refl _))
        clear hown10 hb
        go_wp2_with fail
        refine (sameTexts_any _ HNab.out _ _ _ tos TW.out).mono ?_
        rintro e w11 ⟨rfl, hb⟩
        have hB := hB.trans (hb.mono hB.size)
        clear hb tos
        go_wp2_with fail
        refine (awake_any _ (VT.below (Hid.out (by with_reducible assumption)) (by repeat' (first | (with_reducible exact Below.refl _ _) | (with_reducible assumption) | (with_reducible exact Hid.out (by with_reducible assumption)) | (with_reducible refine below_one _ ?_) | (with_reducible refine Below.drew ?_))))).mono ?_
        rintro e wz ⟨rfl, hb⟩
        have hB := hB.trans (hb.mono hB.size)
        go_wp2_with fail
        go_ret
        exact ⟨rfl, hB⟩
end Go.Proofs.YtacceiloggnekaaDoor
