/-
  The law text's made: a path and a query made of numbers, for every list of numbers. No condition.
-/
import Derived.Test.YtjinedeelkdgiaaDoorHGDRef4
import Derived.Test.YtjinedeelkdgiaaDoorHGPure3
import Derived.Test.YtjinedeelkdgiaaDoorHKMod
namespace Go.Proofs.YtjinedeelkdgiaaDoor
open Go.RowKit
def words : List (List UInt8) := [[97], [98, 32, 99], [37], [120, 63], [46, 46, 97], [255], [35], [97, 46, 98]]
def qwords : List (List UInt8) := [[97, 61, 49], [38], [63], [37, 50, 48], [37]]
def goodW (y : List UInt8) : Prop := nameB y = true ∧ safeB y = true ∧ y.length ≤ 3
def SegG (L : List (List UInt8)) : Prop := ∀ y ∈ L, goodW y
theorem words_good : ∀ j, j < 8 → goodW (words.getD j []) := by
  intro j hj
  match j, hj with
  | 0, _ => exact ⟨by decide +kernel, by decide +kernel, by decide⟩
  | 1, _ => exact ⟨by decide +kernel, by decide +kernel, by decide⟩
  | 2, _ => exact ⟨by decide +kernel, by decide +kernel, by decide⟩
  | 3, _ => exact ⟨by decide +kernel, by decide +kernel, by decide⟩
  | 4, _ => exact ⟨by decide +kernel, by decide +kernel, by decide⟩
  | 5, _ => exact ⟨by decide +kernel, by decide +kernel, by decide⟩
  | 6, _ => exact ⟨by decide +kernel, by decide +kernel, by decide⟩
  | 7, _ => exact ⟨by decide +kernel, by decide +kernel, by decide⟩
theorem qwords_good : ∀ j, j < 5 → qryB (qwords.getD j []) = true ∧ (qwords.getD j []).length ≤ 3 := by
  intro j hj
  match j, hj with
  | 0, _ => exact ⟨by decide +kernel, by decide⟩
  | 1, _ => exact ⟨by decide +kernel, by decide⟩
  | 2, _ => exact ⟨by decide +kernel, by decide⟩
  | 3, _ => exact ⟨by decide +kernel, by decide⟩
  | 4, _ => exact ⟨by decide +kernel, by decide⟩
theorem lit_at (W : World) (t : TypeId) (l : List (List UInt8)) (C : Array Value) (hC : C = (l.map strW).toArray) (j : Nat) (hj : j < l.length) : (W.alloc (.cells C t)).cell? ⟨W.heap.size, j, none⟩ = some (.string ⟨(l.getD j []).toArray⟩) := by
  subst hC
  obtain ⟨pp, cc, e1, e2⟩ := strs_lit W t l
  obtain ⟨b3, o3, e3, -, e4⟩ := e2 j (by omega)
  injection e1 with e1
  subst e1
  injection e3 with e3
  injection e3 with e5 e6
  subst e5 e6
  unfold strC at e4
  rw [Nat.zero_add] at e4
  exact e4
theorem seg_snoc {L : List (List UInt8)} {y : List UInt8} (h : SegG L) (hy : goodW y) : SegG (L ++ [y]) := fun x hx => by
  rcases List.mem_append.1 hx with hx | hx
  · exact h x hx
  · rw [List.mem_singleton.1 hx]; exact hy
theorem seg_names {L : List (List UInt8)} (h : SegG L) : Names L := fun x hx => (h x hx).1
theorem seg_flat {L : List (List UInt8)} (h : SegG L) : (flatL L).length ≤ L.length * 4 := flat_len L 3 fun x hx => (h x hx).2.2
theorem seg_safe : ∀ {L : List (List UInt8)}, SegG L → safeB (flatL L) = true
  | [], _ => rfl
  | x :: r, h => by
    have ih := seg_safe (L := r) fun y hy => h y (List.mem_cons_of_mem _ hy)
    have hx := (h x List.mem_cons_self).2.1
    unfold safeB at ih hx ⊢
    rw [flatL, List.all_cons, List.all_append, ih, hx]
    decide +kernel
theorem put_safe {L : List (List UInt8)} (h : SegG L) (o : Bool) : safeB (putL L o) = true := by
  have k := seg_safe h
  unfold safeB at k ⊢
  unfold putL
  rw [List.all_append, k]
  split <;> decide +kernel
theorem put_short {L : List (List UInt8)} (h : SegG L) (hl : L.length ≤ 15) (o : Bool) : (putL L o).length ≤ 61 := by
  have k := seg_flat h
  unfold putL
  rw [List.length_append]
  split <;> simp <;> omega
/-- What is known of a path and a query that are being made. -/
structure MD (k : Nat) (A Q : List UInt8) (L : List (List UInt8)) : Prop where
  a : A = flatL L
  g : SegG L
  l : L.length ≤ 15
  lk : L.length ≤ k
  q : qryB Q = true
  ql : Q.length ≤ 3 * k
theorem MD.alen {k : Nat} {A Q : List UInt8} {L : List (List UInt8)} (h : MD k A Q L) : A.length ≤ 60 := by
  have := seg_flat h.g
  have := h.l
  rw [h.a]
  omega
theorem MD.path {k : Nat} {A Q : List UInt8} {L : List (List UInt8)} {y : List UInt8} (h : MD k A Q L) (hk : k < 15) (hy : goodW y) : MD (k + 1) (A ++ [47] ++ y) Q (L ++ [y]) :=
  ⟨by rw [flat_append, ← h.a]; simp [flatL], seg_snoc h.g hy, by have := h.lk; simp; omega, by have := h.lk; simp; omega, h.q, by have := h.ql; omega⟩
theorem MD.same {k : Nat} {A Q : List UInt8} {L : List (List UInt8)} (h : MD k A Q L) : MD (k + 1) A Q L := ⟨h.a, h.g, h.l, Nat.le_succ_of_le h.lk, h.q, by have := h.ql; omega⟩
theorem MD.query {k : Nat} {A Q z : List UInt8} {L : List (List UInt8)} (h : MD (k + 1) A Q L) (hl : Q.length ≤ 3 * k) (hz : qryB z = true ∧ z.length ≤ 3) : MD (k + 1) A (Q ++ z) L :=
  ⟨h.a, h.g, h.l, h.lk, by have := h.q; unfold qryB at this hz ⊢; rw [List.all_append, this, hz.1]; rfl, by have := hz.2; rw [List.length_append]; omega⟩
abbrev segC : Array Value := #[.string ⟨#[97]⟩, .string ⟨#[98, 32, 99]⟩, .string ⟨#[37]⟩, .string ⟨#[120, 63]⟩, .string ⟨#[46, 46, 97]⟩, .string ⟨#[255]⟩, .string ⟨#[35]⟩, .string ⟨#[97, 46, 98]⟩]
abbrev qwC : Array Value := #[.string ⟨#[97, 61, 49]⟩, .string ⟨#[38]⟩, .string ⟨#[63]⟩, .string ⟨#[37, 50, 48]⟩, .string ⟨#[37]⟩]
set_option maxRecDepth 100000 in
set_option maxHeartbeats 8000000 in
theorem made_any (p : Option Addr) (n c : Nat) (f : Nat → Int) (w : World) (hC : CellsIn w p (n * 1) (intC f)) :
    Calls Tryd.prog 25 #[.slice p n c] w fun e w' => ∃ (L : List (List UInt8)) (o : Bool) (Q : List UInt8), e = .returned (.tuple #[.string ⟨(putL L o).toArray⟩, .string ⟨Q.toArray⟩]) ∧ SegG L ∧ L.length ≤ 15 ∧ qryB Q = true ∧ Q.length ≤ 60 ∧ Below w.heap.size w w' := by
  have HC : Hid (CellsIn w p (n * 1) (intC f)) := hC
  clear hC
  go_enter Tryd.func25, Tryd.ntmps25
  go_wp2_with fail
  go_loopw [4, 5, 6, 7, 8] (fun pp qq i _ _ wr => ∃ (k : Nat) (A Q : List UInt8) (L : List (List UInt8)), k ≤ n ∧ k ≤ 20 ∧ i = .int .i64 (k : Int) ∧ pp = .string ⟨A.toArray⟩ ∧ qq = .string ⟨Q.toArray⟩ ∧ Hid (MD k A Q L) ∧ Below w.heap.size w wr) (fun _ _ i _ _ _ => n - (intOf i).toNat)
  case atStart => exact ⟨0, [], [], [], Nat.zero_le _, Nat.zero_le _, rfl, rfl, rfl, Lib.hid ⟨rfl, (fun y hy => by cases hy), Nat.zero_le _, Nat.zero_le _, rfl, Nat.zero_le _⟩, Below.refl _ _⟩
  case round =>
  obtain ⟨k, A, Q, L, hk, hk20, rfl, rfl, rfl, hM, hB⟩ := hrel
  by_cases hlt : k < n ∧ k < 20
  · obtain ⟨hlt, h20⟩ := hlt
    have d1 : decide ((k : Int) < (n : Int)) = true := decide_eq_true (by omega)
    have hb2 : (k : Int) < (n : Int) := by omega
    have d2 : decide ((k : Int) < 20) = true := decide_eq_true (by omega)
    have g3 : IntKind.i64.wrap ((k : Int) + 1) = ((k + 1 : Nat) : Int) := (IntWalk.i64_in _ (by omega)).trans (by omega)
    obtain ⟨b, off, rfl, hbl, hcell⟩ := HC.out k (by omega)
    have hcell := (hB.cell (p := ⟨b, off + k, none⟩) hbl).trans hcell
    unfold intC at hcell
    obtain ⟨x, hx⟩ : ∃ x, f k = x := ⟨_, rfl⟩
    rw [hx] at hcell
    clear hx
    have hm := modI_range x 1048576 (by decide)
    obtain ⟨m, hmm⟩ : ∃ m : Nat, modI x 1048576 = (m : Int) := ⟨(modI x 1048576).toNat, by omega⟩
    have HMM := Lib.hid hmm
    have hMOD := Lib.hid (fun W => mod_any x 1048576 (by decide) (by decide) W)
    have hm20 : m < 1048576 := by omega
    have q1 : ((m : Int) % 8) = ((m % 8 : Nat) : Int) := rfl
    obtain ⟨j, hj⟩ : ∃ j, m % 8 = j := ⟨_, rfl⟩
    have hj8 : j < 8 := by omega
    have hj8i : (j : Int) < 8 := by omega
    have q2 : IntKind.i64.wrap (j : Int) = (j : Int) := IntWalk.i64_in _ (by omega)
    have q3 : ((m : Int) / 8) = ((m / 8 : Nat) : Int) := rfl
    obtain ⟨m8, hm8⟩ : ∃ j, m / 8 = j := ⟨_, rfl⟩
    have q4 : IntKind.i64.wrap (m8 : Int) = (m8 : Int) := IntWalk.i64_in _ (by omega)
    have q5 : ((m8 : Int) % 3) = ((m8 % 3 : Nat) : Int) := rfl
    obtain ⟨r, hr⟩ : ∃ j, m8 % 3 = j := ⟨_, rfl⟩
    have hr3 : r < 3 := by omega
    have q6 : IntKind.i64.wrap (r : Int) = (r : Int) := IntWalk.i64_in _ (by omega)
    have q7 : ((m : Int) / 24) = ((m / 24 : Nat) : Int) := rfl
    obtain ⟨m24, hm24⟩ : ∃ j, m / 24 = j := ⟨_, rfl⟩
    have q8 : IntKind.i64.wrap (m24 : Int) = (m24 : Int) := IntWalk.i64_in _ (by omega)
    have q9 : ((m24 : Int) % 5) = ((m24 % 5 : Nat) : Int) := rfl
    obtain ⟨s, hs⟩ : ∃ j, m24 % 5 = j := ⟨_, rfl⟩
    have hs5 : s < 5 := by omega
    have hs5i : (s : Int) < 5 := by omega
    have q10 : IntKind.i64.wrap (s : Int) = (s : Int) := IntWalk.i64_in _ (by omega)
    rw [hj] at q1
    rw [hm8] at q3
    rw [hr] at q5
    rw [hm24] at q7
    rw [hs] at q9
    clear hj hm8 hr hm24 hs hmm hm
    obtain ⟨y, hy⟩ : ∃ y, words.getD j [] = y := ⟨_, rfl⟩
    have hwy := words_good j hj8
    obtain ⟨z, hz⟩ : ∃ z, qwords.getD s [] = z := ⟨_, rfl⟩
    have hwz := qwords_good s hs5
    have hlit := lit_at wr 9 words segC rfl j hj8
    rw [hy] at hwy hlit
    have hlit2 := lit_at (wr.alloc (.cells segC 9)) 9 qwords qwC rfl s hs5
    rw [hz] at hwz hlit2
    have hB1 := hB.alloc hB.size (.cells segC 9)
    clear hy hz
    obtain ⟨W1, hW1⟩ : ∃ W1, wr.alloc (.cells segC 9) = W1 := ⟨_, rfl⟩
    rw [hW1] at hlit hlit2 hB1
    have HW1 := Lib.hid hW1
    clear hW1
    have hla := MD.alen hM.out
    have hlq := hM.out.ql
    have hly := hwy.2.2
    have hlz := hwz.2
    go_wp2_with fail
    refine (hMOD.out _).mono ?_
    rintro e w' ⟨rfl, rfl⟩
    rw [HMM.out]
    go_upto_region 7 with fail
    rw [HW1.out]
    obtain ⟨P, hP⟩ : ∃ P, wr.heap.size = P := ⟨_, rfl⟩
    rw [hP] at hlit ⊢
    clear hP HMM hMOD hcell
    have x3 : ∀ W, (Op.stringOp .add ⟨Q.toArray⟩ ⟨z.toArray⟩).run Tryd.prog W = .ok (.string ⟨(Q ++ z).toArray⟩) W := fun W => str_add Q z (by unfold Small; omega)
    obtain ⟨Qz, hQz⟩ : ∃ Qz, Q ++ z = Qz := ⟨_, rfl⟩
    have HQz := Lib.hid hQz
    rw [hQz] at x3
    have hB2 := Lib.hid (hB1.alloc hB1.size (.cells qwC 9))
    have hB1' := Lib.hid hB1
    by_cases h15 : k < 15
    · have d3 : decide ((k : Int) < 15) = true := decide_eq_true (by omega)
      have d3n : decide (k < 15) = true := decide_eq_true h15
      have x1 : ∀ W, (Op.stringOp .add ⟨A.toArray⟩ ⟨#[47]⟩).run Tryd.prog W = .ok (.string ⟨(A ++ [47]).toArray⟩) W := fun W => str_add A [47] (by unfold Small; simp; omega)
      have x2 : ∀ W, (Op.stringOp .add ⟨(A ++ [47]).toArray⟩ ⟨y.toArray⟩).run Tryd.prog W = .ok (.string ⟨(A ++ [47] ++ y).toArray⟩) W := fun W => str_add (A ++ [47]) y (by unfold Small; simp; omega)
      have hN := hM.out.path h15 hwy
      obtain ⟨A2, hA2⟩ : ∃ A2, A ++ [47] ++ y = A2 := ⟨_, rfl⟩
      rw [hA2] at x2 hN
      obtain ⟨A1, hA1⟩ : ∃ A1, A ++ [47] = A1 := ⟨_, rfl⟩
      rw [hA1] at x1 x2
      clear hA1 hA2
      have HN := Lib.hid hN
      have HNQ := Lib.hid (hN.query hlq hwz)
      rw [HQz.out] at HNQ
      clear hN hQz hla hlq hly hlz hwy hwz hM HQz hB1 hB
      by_cases hr0 : r = 0
      · have e0 : ((r : Int) == 0) = true := by rw [beq_iff_eq]; omega
        have e0n : (r == 0) = true := by rw [beq_iff_eq]; exact hr0
        clear hr0
        go_wp2_with fail
        go_roundw
        case rel => exact ⟨k + 1, A2, Qz, L ++ [y], by omega, by omega, by go_num, rfl, rfl, HNQ, hB2.out⟩
        case measure => simp [intOf]; omega
      · have e0 : ((r : Int) == 0) = false := by rw [beq_eq_false_iff_ne]; omega
        have e0n : (r == 0) = false := by rw [beq_eq_false_iff_ne]; exact hr0
        clear hr0
        go_wp2_with fail
        go_roundw
        case rel => exact ⟨k + 1, A2, Q, L ++ [y], by omega, by omega, by go_num, rfl, rfl, HN, hB1'.out⟩
        case measure => simp [intOf]; omega
    · have d3 : decide ((k : Int) < 15) = false := decide_eq_false (by omega)
      have d3n : decide (k < 15) = false := decide_eq_false h15
      have hN := hM.out.same
      have HN := Lib.hid hN
      have HNQ := Lib.hid (hN.query hlq hwz)
      rw [HQz.out] at HNQ
      clear hN hQz hla hlq hly hlz hwy hwz hM HQz hB1 hB
      by_cases hr0 : r = 0
      · have e0 : ((r : Int) == 0) = true := by rw [beq_iff_eq]; omega
        have e0n : (r == 0) = true := by rw [beq_iff_eq]; exact hr0
        clear hr0
        go_wp2_with fail
        go_roundw
        case rel => exact ⟨k + 1, A, Qz, L, by omega, by omega, by go_num, rfl, rfl, HNQ, hB2.out⟩
        case measure => simp [intOf]; omega
      · have e0 : ((r : Int) == 0) = false := by rw [beq_eq_false_iff_ne]; omega
        have e0n : (r == 0) = false := by rw [beq_eq_false_iff_ne]; exact hr0
        clear hr0
        go_wp2_with fail
        go_roundw
        case rel => exact ⟨k + 1, A, Q, L, by omega, by omega, by go_num, rfl, rfl, HN, hB1'.out⟩
        case measure => simp [intOf]; omega
  · have hres : ∀ T, T = A ++ [47] → ∃ o, T = putL L o := fun T hT => ⟨true, by rw [hT, hM.out.a]; unfold putL; simp⟩
    have hres2 : A ≠ [] → ∃ o, A = putL L o := fun hne => ⟨false, by
      have hL : (L == []) = false := by
        rw [beq_eq_false_iff_ne]
        intro e
        exact hne (by rw [hM.out.a, e]; rfl)
      rw [hM.out.a]
      unfold putL
      rw [hL]
      simp⟩
    have HR1 := Lib.hid hres
    have HR2 := Lib.hid hres2
    have hla := MD.alen hM.out
    obtain ⟨m1, m2, m3, m4⟩ : SegG L ∧ L.length ≤ 15 ∧ qryB Q = true ∧ Q.length ≤ 60 := ⟨hM.out.g, hM.out.l, hM.out.q, by have := hM.out.ql; omega⟩
    have HF := Lib.hid (And.intro m1 (And.intro m2 (And.intro m3 m4)))
    have x1 : ∀ W, (Op.stringOp .add ⟨A.toArray⟩ ⟨#[47]⟩).run Tryd.prog W = .ok (.string ⟨(A ++ [47]).toArray⟩) W := fun W => str_add A [47] (by unfold Small; simp; omega)
    obtain ⟨A1, hA1⟩ : ∃ A1, A ++ [47] = A1 := ⟨_, rfl⟩
    rw [hA1] at x1
    obtain ⟨o1, h1⟩ := HR1.out A1 hA1.symm
    have H1 := Lib.hid h1
    have q1 : ((n : Int) % 2) = ((n % 2 : Nat) : Int) := rfl
    obtain ⟨j, hj⟩ : ∃ j, n % 2 = j := ⟨_, rfl⟩
    have hj2 : j < 2 := by omega
    have q2 : IntKind.i64.wrap (j : Int) = (j : Int) := IntWalk.i64_in _ (by omega)
    rw [hj] at q1
    clear hres hres2 m1 m2 m3 m4 hM hA1 h1 hla hj
    by_cases hA : A = []
    · have c1 : (A == []) = true := by rw [hA]; rfl
      have c2 : A.isEmpty = true := by rw [hA]; rfl
      have c3 : (A != []) = false := by rw [hA]; rfl
      clear hA HR1 HR2
      by_cases hkn : k < n
      · have d1 : decide ((k : Int) < (n : Int)) = true := decide_eq_true (by omega)
        have d1n : decide (k < n) = true := decide_eq_true hkn
        have d2 : decide ((k : Int) < 20) = false := decide_eq_false (by omega)
        have d2n : decide (k < 20) = false := decide_eq_false (by omega)
        clear hkn hlt
        go_wp2_with fail
        go_ret2
        exact ⟨L, o1, Q, by rw [← H1.out]; rfl, HF.out.1, HF.out.2.1, HF.out.2.2.1, HF.out.2.2.2, hB⟩
      · have d1 : decide ((k : Int) < (n : Int)) = false := decide_eq_false (by omega)
        have d1n : decide (k < n) = false := decide_eq_false hkn
        clear hkn hlt
        go_wp2_with fail
        go_ret2
        exact ⟨L, o1, Q, by rw [← H1.out]; rfl, HF.out.1, HF.out.2.1, HF.out.2.2.1, HF.out.2.2.2, hB⟩
    · have c1 : (A == []) = false := by simpa using hA
      have c2 : A.isEmpty = false := by simpa using hA
      have c3 : (A != []) = true := by simpa using hA
      obtain ⟨o2, h2⟩ := HR2.out hA
      have H2 := Lib.hid h2
      clear hA HR1 HR2 h2
      by_cases hj1 : j = 1
      · have e1 : ((j : Int) == 1) = true := by rw [beq_iff_eq]; omega
        have e1n : (j == 1) = true := by rw [beq_iff_eq]; exact hj1
        clear hj1
        by_cases hkn : k < n
        · have d1 : decide ((k : Int) < (n : Int)) = true := decide_eq_true (by omega)
          have d1n : decide (k < n) = true := decide_eq_true hkn
          have d2 : decide ((k : Int) < 20) = false := decide_eq_false (by omega)
          have d2n : decide (k < 20) = false := decide_eq_false (by omega)
          clear hkn hlt
          go_wp2_with fail
          go_ret2
          exact ⟨L, o1, Q, by rw [← H1.out]; rfl, HF.out.1, HF.out.2.1, HF.out.2.2.1, HF.out.2.2.2, hB⟩
        · have d1 : decide ((k : Int) < (n : Int)) = false := decide_eq_false (by omega)
          have d1n : decide (k < n) = false := decide_eq_false hkn
          clear hkn hlt
          go_wp2_with fail
          go_ret2
          exact ⟨L, o1, Q, by rw [← H1.out]; rfl, HF.out.1, HF.out.2.1, HF.out.2.2.1, HF.out.2.2.2, hB⟩
      · have e1 : ((j : Int) == 1) = false := by rw [beq_eq_false_iff_ne]; omega
        have e1n : (j == 1) = false := by rw [beq_eq_false_iff_ne]; exact hj1
        clear hj1
        by_cases hkn : k < n
        · have d1 : decide ((k : Int) < (n : Int)) = true := decide_eq_true (by omega)
          have d1n : decide (k < n) = true := decide_eq_true hkn
          have d2 : decide ((k : Int) < 20) = false := decide_eq_false (by omega)
          have d2n : decide (k < 20) = false := decide_eq_false (by omega)
          clear hkn hlt
          go_wp2_with fail
          go_ret2
          exact ⟨L, o2, Q, by rw [← H2.out]; rfl, HF.out.1, HF.out.2.1, HF.out.2.2.1, HF.out.2.2.2, hB⟩
        · have d1 : decide ((k : Int) < (n : Int)) = false := decide_eq_false (by omega)
          have d1n : decide (k < n) = false := decide_eq_false hkn
          clear hkn hlt
          go_wp2_with fail
          go_ret2
          exact ⟨L, o2, Q, by rw [← H2.out]; rfl, HF.out.1, HF.out.2.1, HF.out.2.2.1, HF.out.2.2.2, hB⟩
end Go.Proofs.YtjinedeelkdgiaaDoor
