/-
  The reference's Length, Canonical, Is, Escapes and asked for every text.
-/
import Derived.Test.YtheajdgdllobbaaPDec
import Derived.Test.YtheajdgdllobbaaPEnc
namespace Go.Proofs.Ytheajdgdllobbaa
open Go.RowKit
attribute [local go_sem] w_0 w_1 w_2 w_3
theorem ba_size (l : List UInt8) : (ByteArray.mk l.toArray).size = l.length := rfl
theorem decF_length : ∀ (k : Nat) (l : List UInt8) (i : Nat) (t : List UInt8), decF k l i = .ok t → t.length ≤ l.length
  | k, [], i, t, h => by
    have h2 : decF k [] i = .ok [] := by cases k <;> rfl
    rw [h2] at h
    injection h with h
    rw [← h]; exact Nat.le_refl _
  | 0, _ :: _, _, t, h => by simp [decF] at h
  | k + 1, c :: r, i, t, h => by
    rw [decF] at h
    split at h
    · cases hd : decF k ((c :: r).drop 3) (i + 3) with
      | error e => rw [hd] at h; cases h
      | ok t' =>
        rw [hd] at h
        injection h with h
        have := decF_length k _ _ _ hd
        rw [← h, List.length_cons, List.length_cons]
        simp at this
        omega
    · split at h
      · cases h
      · cases hd : decF k r (i + 1) with
        | error e => rw [hd] at h; cases h
        | ok t' =>
          rw [hd] at h
          injection h with h
          have := decF_length k _ _ _ hd
          rw [← h, List.length_cons, List.length_cons]
          omega
theorem decL_length {l : List UInt8} {i : Nat} {t : List UInt8} (h : decL l i = .ok t) : t.length ≤ l.length := decF_length _ _ _ _ h
set_option maxHeartbeats 1000000 in
theorem refLength_any (l : List UInt8) (hl : l.length < 1000000) (a b c d : BitVec 64) (w : World) :
    Calls Try.prog 20 #[.string ⟨l.toArray⟩, .agg #[.int .u64 a.toNat, .int .u64 b.toNat, .int .u64 c.toNat, .int .u64 d.toNat]] w fun e w' => e = .returned (.int .i64 ((encL ⟨a, b, c, d⟩ l).length : Nat)) ∧ Below w.heap.size w w' := by
  go_enter Try.func20, Try.ntmps20
  have hB : Below w.heap.size w (w.alloc (.cells #[.int .u64 a.toNat, .int .u64 b.toNat, .int .u64 c.toNat, .int .u64 d.toNat] 24)) := by go_grown
  go_wp2_with fail
  refine (refEncode_any l hl a b c d _).mono ?_
  rintro y w1 ⟨rfl, hb⟩
  obtain ⟨T, hT⟩ : ∃ T, Hid (encL ⟨a, b, c, d⟩ l = T) := ⟨_, Lib.hid rfl⟩
  rw [hT.out]
  go_wp2_with fail
  go_ret
  exact ⟨by rw [hT.out]; rfl, hB.trans (hb.mono hB.size)⟩
/-- What Canonical returns, as a value. -/
def canV (s : WSet) : Except Nat (List UInt8) → Value
  | .ok t => .tuple #[.string ⟨(encL s t).toArray⟩, .agg #[.int .i64 0, .int .i64 0]]
  | .error i => .tuple #[.string ⟨#[]⟩, .agg #[.int .i64 3, .int .i64 (i : Int)]]
set_option maxHeartbeats 1000000 in
theorem refCanonical_any (l : List UInt8) (hl : l.length < 1000000) (a b c d : BitVec 64) (w : World) :
    Calls Try.prog 14 #[.string ⟨l.toArray⟩, .agg #[.int .u64 a.toNat, .int .u64 b.toNat, .int .u64 c.toNat, .int .u64 d.toNat]] w fun e w' => e = .returned (canV ⟨a, b, c, d⟩ (decL l 0)) ∧ Below w.heap.size w w' := by
  have hB0 : Below w.heap.size w ((w.alloc (.cells #[.int .u64 a.toNat, .int .u64 b.toNat, .int .u64 c.toNat, .int .u64 d.toNat] 24)).alloc (.cells #[.int .i64 0, .int .i64 0] 28)) := by go_grown
  have s0 := (Blk.new w ⟨a, b, c, d⟩).alloc (.cells #[.int .i64 0, .int .i64 0] 28)
  have r0 := FBlk.new0 (w.alloc (.cells #[.int .u64 a.toNat, .int .u64 b.toNat, .int .u64 c.toNat, .int .u64 d.toNat] 24))
  rw [World.size_alloc] at r0
  cases hd : decL l 0 with
  | error i =>
    have HD := Lib.hid hd
    go_enter Try.func14, Try.ntmps14
    go_upto_region 1 with fail
    obtain ⟨W, hW⟩ : ∃ W, (w.alloc (.cells #[.int .u64 a.toNat, .int .u64 b.toNat, .int .u64 c.toNat, .int .u64 d.toNat] 24)).alloc (.cells #[.int .i64 0, .int .i64 0] 28) = W := ⟨_, rfl⟩
    rw [hW] at hB0 s0 r0 ⊢
    clear hW hd
    go_wp2_with fail
    refine (refDecode_any l hl _).mono ?_
    rintro y w1 ⟨rfl, hb⟩
    rw [HD.out]
    simp only [decV]
    have r1 : FBlk w1 (w.heap.size + 1) 0 0 := (hb.block _ r0.lt).trans r0
    have hB1 := hB0.trans (hb.mono hB0.size)
    have l1 := r1.lt
    obtain ⟨c0, c1, f0, f1⟩ := r1.cells
    clear hb hB0 s0 r0
    go_wp2_with fail
    go_region
    all_goals
      go_wp2_with fail
      exact bodyPost_ret ((((r1.store 3 i).alloc (.cells #[.int .i64 3, .int .i64 (i : Int)] 28)).drew).results rfl _ _ rfl rfl) rfl ⟨rfl, ((FBlk.belowStore (B := w.heap.size + 1) hB1 (by omega) _ _).alloc (by simp; omega) _).drew⟩
  | ok t =>
    have hlt : t.length < 1000000 := Nat.lt_of_le_of_lt (decL_length hd) hl
    have HD := Lib.hid hd
    go_enter Try.func14, Try.ntmps14
    go_upto_region 1 with fail
    obtain ⟨W, hW⟩ : ∃ W, (w.alloc (.cells #[.int .u64 a.toNat, .int .u64 b.toNat, .int .u64 c.toNat, .int .u64 d.toNat] 24)).alloc (.cells #[.int .i64 0, .int .i64 0] 28) = W := ⟨_, rfl⟩
    rw [hW] at hB0 s0 r0 ⊢
    clear hW hd
    go_wp2_with fail
    refine (refDecode_any l hl _).mono ?_
    rintro y w1 ⟨rfl, hb⟩
    rw [HD.out]
    simp only [decV]
    have r1 : FBlk w1 (w.heap.size + 1) 0 0 := (hb.block _ r0.lt).trans r0
    have s1 := s0.below hb s0.lt
    have hB1 := hB0.trans (hb.mono hB0.size)
    have l1 := r1.lt
    obtain ⟨c0, c1, f0, f1⟩ := r1.cells
    obtain ⟨b0, b1, b2, b3⟩ := s1.cells
    have ls := s1.lt
    clear hb hB0 s0 r0
    go_wp2_with fail
    refine (refEncode_any t hlt a b c d _).mono ?_
    rintro y w2 ⟨rfl, hb⟩
    have r2 : FBlk w2 (w.heap.size + 1) 0 0 := (hb.block _ (by simp; omega)).trans (r1.alloc _)
    have hB2 := (hB1.alloc hB1.size (.cells #[.int .i64 0, .int .i64 0] 28)).trans (hb.mono (by have := hB1.size; simp; omega))
    clear hb c0 c1 f0 f1 b0 b1 b2 b3
    obtain ⟨c0, c1, f0, f1⟩ := r2.cells
    go_wp2_with fail
    exact bodyPost_ret ((r2.store 0 0).results rfl _ _ rfl rfl) rfl ⟨rfl, FBlk.belowStore hB2 (by omega) _ _⟩
/-- Is a text a canonical encoding? -/
def isB (s : WSet) (l : List UInt8) : Bool := match decL l 0 with
  | .ok t => encL s t == l
  | .error _ => false
set_option maxHeartbeats 1000000 in
theorem refIs_any (l : List UInt8) (hl : l.length < 1000000) (a b c d : BitVec 64) (w : World) :
    Calls Try.prog 22 #[.string ⟨l.toArray⟩, .agg #[.int .u64 a.toNat, .int .u64 b.toNat, .int .u64 c.toNat, .int .u64 d.toNat]] w fun e w' => e = .returned (.bool (isB ⟨a, b, c, d⟩ l)) ∧ Below w.heap.size w w' := by
  have hB0 : Below w.heap.size w (w.alloc (.cells #[.int .u64 a.toNat, .int .u64 b.toNat, .int .u64 c.toNat, .int .u64 d.toNat] 24)) := by go_grown
  cases hd : decL l 0 with
  | error i =>
    have HD := Lib.hid hd
    have HR : Hid (isB ⟨a, b, c, d⟩ l = false) := Lib.hid (by unfold isB; rw [hd])
    clear hd
    go_enter Try.func22, Try.ntmps22
    go_wp2_with fail
    refine (refCanonical_any l hl a b c d _).mono ?_
    rintro y w1 ⟨rfl, hb⟩
    rw [HD.out]
    simp only [canV]
    go_wp2_with fail
    go_ret
    exact ⟨by rw [HR.out]; rfl, (hB0.trans (hb.mono hB0.size)).alloc (by have := hB0.size; have := hb.size; omega) _⟩
  | ok t =>
    have HD := Lib.hid hd
    have HR : Hid (isB ⟨a, b, c, d⟩ l = (encL ⟨a, b, c, d⟩ t == l)) := Lib.hid (by unfold isB; rw [hd])
    obtain ⟨T, hT⟩ : ∃ T, Hid (encL ⟨a, b, c, d⟩ t = T) := ⟨_, Lib.hid rfl⟩
    rw [hT.out] at HR
    clear hd
    go_enter Try.func22, Try.ntmps22
    go_wp2_with fail
    refine (refCanonical_any l hl a b c d _).mono ?_
    rintro y w1 ⟨rfl, hb⟩
    rw [HD.out]
    simp only [canV]
    rw [hT.out]
    go_wp2_with fail
    go_ret
    exact ⟨by rw [HR.out]; rfl, (hB0.trans (hb.mono hB0.size)).alloc (by have := hB0.size; have := hb.size; omega) _⟩
/-- What asked answers. -/
def askedN (l : List UInt8) (n : Int) : Nat := if n < 0 then 2 else match decL l 0 with
  | .ok _ => 0
  | .error _ => 3
set_option maxHeartbeats 1000000 in
theorem asked_any (l : List UInt8) (hl : l.length < 1000000) (n : Int) (w : World) :
    Calls Try.prog 43 #[.string ⟨l.toArray⟩, .int .i64 n] w fun e w' => e = .returned (.int .i64 (askedN l n : Nat)) ∧ Below w.heap.size w w' := by
  by_cases hn : n < 0
  · have HR : Hid (askedN l n = 2) := Lib.hid (by unfold askedN; rw [if_pos hn])
    go_enter Try.func43, Try.ntmps43
    go_wp2_with fail
    go_ret
    exact ⟨by rw [HR.out]; rfl, Below.refl _ _⟩
  · cases hd : decL l 0 with
    | error i =>
      have HD := Lib.hid hd
      have HR : Hid (askedN l n = 3) := Lib.hid (by unfold askedN; rw [if_neg hn, hd])
      clear hd
      go_enter Try.func43, Try.ntmps43
      go_wp2_with fail
      refine (refDecode_any l hl _).mono ?_
      rintro y w1 ⟨rfl, hb⟩
      rw [HD.out]
      simp only [decV]
      go_wp2_with fail
      go_ret
      exact ⟨by rw [HR.out]; rfl, hb.alloc hb.size _⟩
    | ok t =>
      have HD := Lib.hid hd
      have HR : Hid (askedN l n = 0) := Lib.hid (by unfold askedN; rw [if_neg hn, hd])
      clear hd
      go_enter Try.func43, Try.ntmps43
      go_wp2_with fail
      refine (refDecode_any l hl _).mono ?_
      rintro y w1 ⟨rfl, hb⟩
      rw [HD.out]
      simp only [decV]
      go_wp2_with fail
      go_ret
      exact ⟨by rw [HR.out]; rfl, hb.alloc hb.size _⟩
end Go.Proofs.Ytheajdgdllobbaa
