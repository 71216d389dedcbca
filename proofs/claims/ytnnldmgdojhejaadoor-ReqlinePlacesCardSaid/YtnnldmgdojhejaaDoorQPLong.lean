/-
  Long by the program, for every line.
-/
import Derived.Test.YtnnldmgdojhejaaDoorQPParts
import Derived.Test.YtnnldmgdojhejaaDoorQPure1
namespace Go.Proofs.YtnnldmgdojhejaaDoor
open Go.RowKit
/-- What Long answers from part j on. -/
def lgF (f : Nat → List UInt8) (L : Nat) : Nat → Nat → Nat → Nat × Nat
  | 0, _, _ => (0, L)
  | n + 1, j, at' => if mstN j < (f j).length then (stsN j, at' + mstN j) else lgF f L n (j + 1) (at' + (f j).length + 1)
def prtF (p : List UInt8 × List UInt8 × List UInt8 × Nat) : Nat → List UInt8 | 0 => p.1 | 1 => p.2.1 | _ => p.2.2.1
theorem lgF_eq (l : List UInt8) : lgF (prtF (prtR l)) l.length (prtR l).2.2.2 0 0 = lngR l := by
  cases ha : spN l with
  | none =>
    rw [prtR_one ha]
    unfold lngR
    rw [prtR_one ha]
    simp only [lgF, prtF, mstN, stsN]
    by_cases h : 16 < l.length
    · rw [if_pos h, if_pos h]
    · rw [if_neg h, if_neg h, if_neg (by simp), if_neg (by simp)]
  | some a =>
    cases hb : spN (l.drop (a + 1)) with
    | none =>
      rw [prtR_two ha hb]
      unfold lngR
      rw [prtR_two ha hb]
      simp only [lgF, prtF, mstN, stsN]
      by_cases h : 16 < (l.take a).length
      · rw [if_pos h, if_pos h]
      · rw [if_neg h, if_neg h]
        by_cases h2 : 1024 < (l.drop (a + 1)).length
        · rw [if_pos h2, if_pos h2]
          exact Prod.ext rfl (by dsimp only; omega)
        · rw [if_neg h2, if_neg h2, if_neg (by simp)]
    | some b =>
      rw [prtR_three ha hb]
      unfold lngR
      rw [prtR_three ha hb]
      simp only [lgF, prtF, mstN, stsN]
      by_cases h : 16 < (l.take a).length
      · rw [if_pos h, if_pos h]
      · rw [if_neg h, if_neg h]
        by_cases h2 : 1024 < ((l.drop (a + 1)).take b).length
        · rw [if_pos h2, if_pos h2]
          exact Prod.ext rfl (by dsimp only; omega)
        · rw [if_neg h2, if_neg h2]
          by_cases h3 : 512 < (l.drop (a + 1 + b + 1)).length
          · rw [if_pos h3, if_pos h3]
            exact Prod.ext rfl (by dsimp only; omega)
          · rw [if_neg h3, if_neg h3]
theorem mstN_le (j : Nat) : mstN j ≤ 1024 := by
  unfold mstN
  split <;> omega
theorem prtF_cell {l : List UInt8} {w : World} {A : Nat} (h : CBlk 35 w A (prtC l)) (j : Nat) (hj : j < 3) : w.cell? ⟨A, j, none⟩ = some (.string ⟨(prtF (prtR l) j).toArray⟩) := by
  match j, hj with
  | 0, _ => exact h.cell 0 (by simp [prtC])
  | 1, _ => exact h.cell 1 (by simp [prtC])
  | 2, _ => exact h.cell 2 (by simp [prtC])
set_option maxHeartbeats 4000000 in
theorem rlong_any (l : List UInt8) (hl : l.length < 100000) (w : World) :
    Calls Tryd.prog 11 #[.string ⟨l.toArray⟩] w fun e w' => e = .returned (lngW (lngR l)) ∧ Below w.heap.size w w' := by
  have HP := Lib.hid fun W => partsOf_any l (by omega) W
  have hle := prtR_le l
  have hn := prtR_n l
  have hF := lgF_eq l
  have HC := Lib.hid fun W A (h : CBlk 35 W A (prtC l)) => prtF_cell h
  unfold prtC at HC
  obtain ⟨f, hf⟩ : ∃ f, prtF (prtR l) = f := ⟨_, rfl⟩
  have HFL : Hid (∀ j, (f j).length ≤ l.length) := Lib.hid fun j => by
    rw [← hf]
    unfold prtF
    split
    · exact hle.1
    · exact hle.2.1
    · exact hle.2.2
  rw [hf] at HC hF
  obtain ⟨R, hR⟩ : ∃ R, lngR l = R := ⟨_, rfl⟩
  rw [hR] at hF ⊢
  obtain ⟨⟨a, b, c, k⟩, hp⟩ : ∃ p, prtR l = p := ⟨_, rfl⟩
  rw [hp] at HP HC hn hF
  clear hp hf hR hle
  dsimp only at HP HC hn hF
  have hk3 : k ≤ 3 := by omega
  have HF := Lib.hid hF
  clear hn hF
  go_enter Tryd.func11, Tryd.ntmps11
  go_wp2_with fail
  refine (HP.out _).mono ?_
  rintro e w1 ⟨rfl, hb⟩
  have hA := CBlk.new 35 w1 [.string ⟨a.toArray⟩, .string ⟨b.toArray⟩, .string ⟨c.toArray⟩]
  have hB := hb.alloc hb.size (.cells [Value.string ⟨a.toArray⟩, .string ⟨b.toArray⟩, .string ⟨c.toArray⟩].toArray 35)
  have hz := hb.size
  go_upto_region 2 with fail
  obtain ⟨A, hAe⟩ : ∃ A, w1.heap.size = A := ⟨_, rfl⟩
  obtain ⟨W0, hW0⟩ : ∃ W0, w1.alloc (.cells #[.string ⟨a.toArray⟩, .string ⟨b.toArray⟩, .string ⟨c.toArray⟩] 35) = W0 := ⟨_, rfl⟩
  rw [hAe] at hA hz ⊢
  have hB : Below w.heap.size w W0 := by rw [← hW0]; exact hB
  rw [hW0] at hA ⊢
  clear hAe hW0 hb
  have d3 : (k : Int) ≤ 3 := by omega
  go_wp2_with fail
  go_loopw [18, 3] (fun i at' wr => ∃ j p : Nat, j ≤ k ∧ i = .int .i64 (j : Int) ∧ at' = .int .i64 (p : Int) ∧ p < 1000000 + j * 1000000 ∧ Hid (lgF f l.length (k - j) j p = R) ∧ CBlk 35 wr A [.string ⟨a.toArray⟩, .string ⟨b.toArray⟩, .string ⟨c.toArray⟩] ∧ Below w.heap.size w wr) (fun i _ _ => k - (intOf i).toNat)
  case atStart => exact ⟨0, 0, Nat.zero_le _, rfl, rfl, by omega, HF, hA, hB⟩
  case round =>
    clear hA hB
    obtain ⟨j, p, hj, rfl, rfl, hpl, hp, hA, hB⟩ := hrel
    by_cases hlt : j < k
    · have h1 : decide ((j : Int) < (k : Int)) = true := decide_eq_true (by omega)
      have hj3 : j < 3 := by omega
      have hb2 : (j : Int) < (k : Int) := by omega
      have hc := HC.out _ _ hA j hj3
      have hfl := HFL.out j
      have hml := mstN_le j
      obtain ⟨r, hr⟩ : ∃ r, k - j = r + 1 := ⟨k - j - 1, by omega⟩
      have hp' := hp.out
      rw [hr, lgF] at hp'
      obtain ⟨q, hq⟩ : ∃ q, f j = q := ⟨_, rfl⟩
      rw [hq] at hc hp' hfl
      have hPL := Lib.hid fun W => partLimit_any j hj3 W
      obtain ⟨m, hm⟩ : ∃ m, mstN j = m := ⟨_, rfl⟩
      obtain ⟨s, hs⟩ : ∃ s, stsN j = s := ⟨_, rfl⟩
      rw [hm, hs] at hPL hp'
      rw [hm] at hml
      clear hm hs hq hp
      have ww1 : IntKind.i64.wrap ((p : Int) + (m : Int)) = (p : Int) + (m : Int) := qwrap (by omega) (by omega)
      have ww2 : IntKind.i64.wrap ((q.length : Int) + 1) = (q.length : Int) + 1 := qwrap (by omega) (by omega)
      have ww3 : IntKind.i64.wrap ((p : Int) + ((q.length : Int) + 1)) = (p : Int) + ((q.length : Int) + 1) := qwrap (by omega) (by omega)
      by_cases hlong : m < q.length
      · have d1 : decide ((m : Int) < (q.length : Int)) = true := decide_eq_true (by omega)
        have d2 : decide (m < q.length) = true := decide_eq_true hlong
        have HR : Hid (R = (s, p + m)) := Lib.hid (by rw [← hp', if_pos hlong])
        clear hp'
        go_wp2_with fail
        refine (hPL.out _).mono ?_
        rintro e w2 ⟨rfl, rfl⟩
        go_wp2_with fail
        go_ret2
        exact ⟨by rw [HR.out]; unfold lngW; simp, hB⟩
      · have d1 : decide ((m : Int) < (q.length : Int)) = false := decide_eq_false (by omega)
        have d2 : decide (m < q.length) = false := decide_eq_false hlong
        have hnext : Hid (lgF f l.length (k - (j + 1)) (j + 1) (p + q.length + 1) = R) := Lib.hid (by rw [← hp', if_neg hlong, show k - (j + 1) = r by omega])
        clear hp'
        go_wp2_with fail
        refine (hPL.out _).mono ?_
        rintro e w2 ⟨rfl, rfl⟩
        go_wp2_with fail
        go_roundw
        case rel => exact ⟨j + 1, p + q.length + 1, by omega, by go_num, by congr 1 <;> omega, by omega, hnext, hA, hB⟩
        case measure => simp [intOf]; omega
    · have h1 : decide ((j : Int) < (k : Int)) = false := decide_eq_false (by omega)
      obtain rfl : j = k := by omega
      have HR : Hid (R = (0, l.length)) := Lib.hid (by rw [← hp.out, Nat.sub_self]; rfl)
      go_wp2_with fail
      go_ret2
      exact ⟨by rw [HR.out]; rfl, hB⟩
end Go.Proofs.YtnnldmgdojhejaaDoor
