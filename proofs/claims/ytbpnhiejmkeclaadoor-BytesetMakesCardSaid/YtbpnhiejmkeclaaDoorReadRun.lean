/-
  strings.CutPrefix at a minus sign, byteset.readRun for every text of fewer than a million bytes.
-/
import Derived.Test.YtbpnhiejmkeclaaDoorReadByte
import Derived.Test.YtbpnhiejmkeclaaDoorRanges
namespace Go.Proofs.YtbpnhiejmkeclaaDoor
open Go.RowKit
attribute [local go_sem] ba_get
/-- What is behind a minus sign, if the text begins with one. -/
def cutDash : List UInt8 → Option (List UInt8)
  | 45 :: r => some r
  | _ => none
theorem hasDash_any (l : List UInt8) (w : World) :
    Calls Tryd.prog 61 #[.string ⟨l.toArray⟩, .string ⟨#[45]⟩] w fun e w' => e = .returned (.bool (cutDash l).isSome) ∧ w = w' := by
  cases l with
  | nil =>
    go_enter Tryd.func61, Tryd.ntmps61
    go_wp2
    go_ret
    exact ⟨rfl, rfl⟩
  | cons b r =>
    have hx : (ByteArray.mk (b :: r).toArray).extract 0 1 = ⟨#[b]⟩ := by rw [ba_extract]; rfl
    by_cases hb : b = 45
    · subst hb
      go_enter Tryd.func61, Tryd.ntmps61
      go_wp2
      go_ret
      exact ⟨rfl, rfl⟩
    · have hb' : (b == 45) = false := by simpa using hb
      have HN : Hid (cutDash (b :: r) = none) := by
        show cutDash (b :: r) = none
        unfold cutDash
        split
        · rename_i h; injection h with h1 h2; exact (hb h1).elim
        · rfl
      go_enter Tryd.func61, Tryd.ntmps61
      go_wp2
      go_ret
      rw [HN.out]
      exact ⟨rfl, rfl⟩
theorem cutPrefix_some (r : List UInt8) (hr : r.length < 1000000) (w : World) :
    Calls Tryd.prog 53 #[.string ⟨(45 :: r).toArray⟩, .string ⟨#[45]⟩] w fun e w' => e = .returned (.tuple #[.string ⟨r.toArray⟩, .bool true]) ∧ w = w' := by
  have hs : ∀ w, Calls Tryd.prog 59 #[.string ⟨(45 :: r).toArray⟩, .string ⟨#[45]⟩] w fun e w' => e = .returned (.tuple #[.string ⟨r.toArray⟩, .bool true]) ∧ w = w' := by
    intro w
    go_enter Tryd.func59, Tryd.ntmps59
    go_wp2_with fail
    refine (hasDash_any (45 :: r) _).mono ?_
    rintro e w' ⟨rfl, rfl⟩
    rw [show (cutDash (45 :: r)).isSome = true from rfl]
    go_wp2_with fail
    go_ret2
    exact ⟨by simp only [ba_tail]; rfl, rfl⟩
  have HS := Lib.hid hs
  clear hs
  go_enter Tryd.func53, Tryd.ntmps53
  go_wp2_with fail
  refine (HS.out _).mono ?_
  rintro e w' ⟨rfl, rfl⟩
  go_wp2_with fail
  go_ret2
  exact ⟨rfl, rfl⟩
theorem cutPrefix_none (l : List UInt8) (h : cutDash l = none) (w : World) :
    Calls Tryd.prog 53 #[.string ⟨l.toArray⟩, .string ⟨#[45]⟩] w fun e w' => e = .returned (.tuple #[.string ⟨l.toArray⟩, .bool false]) ∧ w = w' := by
  have hs : ∀ w, Calls Tryd.prog 59 #[.string ⟨l.toArray⟩, .string ⟨#[45]⟩] w fun e w' => e = .returned (.tuple #[.string ⟨l.toArray⟩, .bool false]) ∧ w = w' := by
    intro w
    have HN := Lib.hid h
    clear h
    go_enter Tryd.func59, Tryd.ntmps59
    go_wp2_with fail
    refine (hasDash_any l _).mono ?_
    rintro e w' ⟨rfl, rfl⟩
    rw [HN.out, show (none : Option (List UInt8)).isSome = false from rfl]
    go_wp2_with fail
    go_ret2
    exact ⟨rfl, rfl⟩
  have HS := Lib.hid hs
  clear hs h
  go_enter Tryd.func53, Tryd.ntmps53
  go_wp2_with fail
  refine (HS.out _).mono ?_
  rintro e w' ⟨rfl, rfl⟩
  go_wp2_with fail
  go_ret2
  exact ⟨rfl, rfl⟩
theorem cutDash_some {l r : List UInt8} (h : cutDash l = some r) : l = 45 :: r := by
  unfold cutDash at h
  split at h
  · injection h with h; rw [h]
  · cases h
theorem readB_lt {l : List UInt8} {v : Nat} {r : List UInt8} (h : readB l = some (v, r)) : v < 256 ∧ r.length < l.length := by
  cases l with
  | nil => simp [readB] at h
  | cons b t =>
    simp only [readB] at h
    split at h
    · injection h with h
      injection h with e1 e2
      subst e1 e2
      exact ⟨b.toNat_lt, by simp⟩
    · split at h
      · rename_i h1 h2 r' _
        split at h
        · injection h with h
          injection h with e1 e2
          subst e1 e2
          have a1 := hexV_lt h1.toNat
          have a2 := hexV_lt h2.toNat
          exact ⟨by omega, by simp; omega⟩
        · cases h
      · cases h
theorem run_below (w : World) (n : Nat) (o : Obj) (x y : Value) : Below w.heap.size w ((((w.alloc o).drewN n).setCell ⟨w.heap.size, 0, none⟩ x).setCell ⟨w.heap.size, 1, none⟩ y) :=
  ((below_drewN ((Below.refl _ _).alloc (Nat.le_refl _) _) n).setCell (p := ⟨w.heap.size, 0, none⟩) (Nat.le_refl _) x).setCell (p := ⟨w.heap.size, 1, none⟩) (Nat.le_refl _) y
/-- The run with which a text begins, and what is behind it; or which error. -/
def readR (l : List UInt8) : Except Nat (Nat × Nat × List UInt8) := match readB l with
  | none => .error 3
  | some (lo, r) => match cutDash r with
    | none => .ok (lo, lo, r)
    | some r' => match readB r' with
      | none => .error 3
      | some (hi, r'') => if hi ≤ lo then .error 8 else .ok (lo, hi, r'')
/-- What readRun returns, as a value. -/
def runV : Except Nat (Nat × Nat × List UInt8) → Value
  | .error e => .tuple #[.agg #[.int .u8 0, .int .u8 0], .string ⟨#[]⟩, .int .i64 e]
  | .ok (lo, hi, r) => .tuple #[.agg #[.int .u8 lo, .int .u8 hi], .string ⟨r.toArray⟩, .int .i64 0]
set_option maxHeartbeats 1000000 in
theorem readRun_any (l : List UInt8) (hl : l.length < 1000000) (w : World) :
    Calls Tryd.prog 45 #[.string ⟨l.toArray⟩] w fun e w' => e = .returned (runV (readR l)) ∧ Below w.heap.size w w' := by
  cases h1 : readB l with
  | none =>
    have HR : Hid (readR l = .error 3) := by show readR l = _; unfold readR; rw [h1]
    have H1 := Lib.hid h1
    clear h1
    go_enter Tryd.func45, Tryd.ntmps45
    go_wp2_with fail
    refine (readByte_none l hl H1.out _).mono ?_
    rintro e w' ⟨v, s, n, rfl, rfl⟩
    go_wp2_with fail
    exact bodyPost_ret (v := runV (readR l)) (by rw [HR.out]; simp [results, Tryd.results45, go_sem, runV]) rfl ⟨rfl, run_below _ _ _ _ _⟩
  | some p =>
    obtain ⟨lo, r⟩ := p
    obtain ⟨hlo, hrl⟩ := readB_lt h1
    cases h2 : cutDash r with
    | none =>
      have HR : Hid (readR l = .ok (lo, lo, r)) := by show readR l = _; unfold readR; rw [h1]; dsimp only; rw [h2]
      have H1 := Lib.hid h1
      have H2 := Lib.hid h2
      clear h1 h2
      go_enter Tryd.func45, Tryd.ntmps45
      go_wp2_with fail
      refine (readByte_some l hl lo r H1.out _).mono ?_
      rintro e w' ⟨rfl, n, rfl⟩
      go_wp2_with fail
      refine (cutPrefix_none r H2.out _).mono ?_
      rintro e w' ⟨rfl, rfl⟩
      go_wp2_with fail
      refine bodyPost_ret (v := runV (readR l)) (by rw [HR.out]; simp [results, Tryd.results45, go_sem, runV]) rfl ⟨rfl, run_below _ _ _ _ _⟩
    | some r' =>
      obtain rfl : r = 45 :: r' := cutDash_some h2
      cases h3 : readB r' with
      | none =>
        have HR : Hid (readR l = .error 3) := by show readR l = _; unfold readR; rw [h1]; dsimp only; rw [h2]; dsimp only; rw [h3]
        have H1 := Lib.hid h1
        have H3 := Lib.hid h3
        clear h1 h2 h3
        go_enter Tryd.func45, Tryd.ntmps45
        go_wp2_with fail
        refine (readByte_some l hl lo _ H1.out _).mono ?_
        rintro e w' ⟨rfl, n, rfl⟩
        go_wp2_with fail
        refine (cutPrefix_some r' (by simp at hrl; omega) _).mono ?_
        rintro e w' ⟨rfl, rfl⟩
        go_wp2_with fail
        refine (readByte_none r' (by simp at hrl; omega) H3.out _).mono ?_
        rintro e w' ⟨v, s, n', rfl, rfl⟩
        go_wp2_with fail
        refine bodyPost_ret (v := runV (readR l)) (by rw [HR.out]; simp [results, Tryd.results45, go_sem, runV]) rfl ⟨rfl, run_below _ _ _ _ _⟩
      | some p' =>
        obtain ⟨hi, r''⟩ := p'
        obtain ⟨hhi, hrl'⟩ := readB_lt h3
        by_cases hle : hi ≤ lo
        · have HR : Hid (readR l = .error 8) := by show readR l = _; unfold readR; rw [h1]; dsimp only; rw [h2]; dsimp only; rw [h3]; dsimp only; rw [if_pos hle]
          have H1 := Lib.hid h1
          have H3 := Lib.hid h3
          clear h1 h2 h3
          have hd : decide ((hi : Int) ≤ (lo : Int)) = true := decide_eq_true (by omega)
          go_enter Tryd.func45, Tryd.ntmps45
          go_wp2_with fail
          refine (readByte_some l hl lo _ H1.out _).mono ?_
          rintro e w' ⟨rfl, n, rfl⟩
          go_wp2_with fail
          refine (cutPrefix_some r' (by simp at hrl; omega) _).mono ?_
          rintro e w' ⟨rfl, rfl⟩
          go_wp2_with fail
          refine (readByte_some r' (by simp at hrl; omega) hi r'' H3.out _).mono ?_
          rintro e w' ⟨rfl, n', rfl⟩
          go_wp2_with fail
          refine bodyPost_ret (v := runV (readR l)) (by rw [HR.out]; simp [results, Tryd.results45, go_sem, runV]) rfl ⟨rfl, run_below _ _ _ _ _⟩
        · have HR : Hid (readR l = .ok (lo, hi, r'')) := by show readR l = _; unfold readR; rw [h1]; dsimp only; rw [h2]; dsimp only; rw [h3]; dsimp only; rw [if_neg hle]
          have H1 := Lib.hid h1
          have H3 := Lib.hid h3
          clear h1 h2 h3
          have hd : decide ((hi : Int) ≤ (lo : Int)) = false := decide_eq_false (by omega)
          go_enter Tryd.func45, Tryd.ntmps45
          go_wp2_with fail
          refine (readByte_some l hl lo _ H1.out _).mono ?_
          rintro e w' ⟨rfl, n, rfl⟩
          go_wp2_with fail
          refine (cutPrefix_some r' (by simp at hrl; omega) _).mono ?_
          rintro e w' ⟨rfl, rfl⟩
          go_wp2_with fail
          refine (readByte_some r' (by simp at hrl; omega) hi r'' H3.out _).mono ?_
          rintro e w' ⟨rfl, n', rfl⟩
          go_wp2_with fail
          refine bodyPost_ret (v := runV (readR l)) (by rw [HR.out]; simp [results, Tryd.results45, go_sem, runV]) rfl ⟨rfl, run_below _ _ _ _ _⟩
end Go.Proofs.YtbpnhiejmkeclaaDoor
