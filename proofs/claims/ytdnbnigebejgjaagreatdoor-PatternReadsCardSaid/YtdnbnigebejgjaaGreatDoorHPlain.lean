/-
  byteset.isPlain for every byte, strings.IndexByte for every string and byte.
  byteset.hexValue for every byte, byteset.readByte for every text of fewer than a million bytes.
-/
import Derived.Test.YtdnbnigebejgjaaGreatDoorHBits
import Derived.Shelf.Strings.Search1
import Derived.BigQuiet
import Derived.Deep.QuietTactic
import Derived.Lib.Hide
namespace Go.Proofs.YtdnbnigebejgjaaGreatDoor
open Go.RowKit
set_option maxRecDepth 100000 in
theorem sbIndexByte_any (s : ByteArray) (c : Int) (w : World) :
    Calls Tryz.prog 117 #[.string s, .int .u8 c] w fun e w' => e = .returned (.int .i64 (Lib.indexByte s.data.toList c.toNat.toUInt8)) ∧ w = w' := by
  go_enter Tryz.func117, Tryz.ntmps117
  go_wp2
  rw [run_callFunc_extern Tryz.func127 (by kernel_rfl) (by kernel_rfl) (by kernel_rfl) (e := Extern.BytealgIndexByte.indexByte) (by kernel_rfl), Lib.run_indexByteString]
  simp only [Result.andThen]
  rw [Oper.upon_value]
  go_wp2
  go_ret
  exact ⟨rfl, rfl⟩
set_option maxRecDepth 100000 in
theorem indexByte_any (s : ByteArray) (c : Int) (w : World) :
    Calls Tryz.prog 104 #[.string s, .int .u8 c] w fun e w' => e = .returned (.int .i64 (Lib.indexByte s.data.toList c.toNat.toUInt8)) ∧ w = w' := by
  go_enter Tryz.func104, Tryz.ntmps104
  go_wp2_with (go_at_call 117; refine (sbIndexByte_any _ _ _).mono ?_; rintro e w' ⟨rfl, rfl⟩)
  go_ret
  exact ⟨rfl, rfl⟩
def marksL : List UInt8 := [33, 35, 36, 37, 38, 39, 42, 43, 44, 46, 47, 58, 59, 60, 61, 62, 63, 64, 95, 96, 123, 124, 125, 126, 40, 41]
/-- Is the byte written as itself? -/
def plainB (n : Nat) : Bool := (97 ≤ n && n ≤ 122) || (65 ≤ n && n ≤ 90) || (48 ≤ n && n ≤ 57) || (decide (0 ≤ Lib.indexByte marksL n.toUInt8))
set_option maxHeartbeats 1000000 in
theorem isPlain_any (n : Int) (h0 : 0 ≤ n) (h1 : n < 256) (w : World) :
    Calls Tryz.prog 143 #[.int .u8 n] w fun e w' => e = .returned (.bool (plainB n.toNat)) ∧ w = w' := by
  obtain ⟨n, rfl⟩ := Int.eq_ofNat_of_zero_le h0
  rw [Int.toNat_natCast]
  have h : (97 ≤ n ∧ n ≤ 122) ∨ (65 ≤ n ∧ n ≤ 90) ∨ (48 ≤ n ∧ n ≤ 57) ∨ n < 48 ∨ (57 < n ∧ n < 65) ∨ (90 < n ∧ n < 97) ∨ 122 < n := by omega
  have hp : ∀ b, plainB n = b → Hid (plainB n = b) := fun _ h => h
  rcases h with h | h | h | h | h | h | h
  · have HP := hp true (by simp [plainB, h]); clear hp
    have a1 : decide ((97 : Int) ≤ (n : Int)) = true := decide_eq_true (by omega)
    have a2 : decide ((n : Int) ≤ 122) = true := decide_eq_true (by omega)
    clear h
    go_enter Tryz.func143, Tryz.ntmps143
    go_wp2
    go_ret
    exact ⟨by rw [HP.out]; rfl, rfl⟩
  · have HP := hp true (by simp [plainB, h]); clear hp
    have a1 : decide ((97 : Int) ≤ (n : Int)) = false := decide_eq_false (by omega)
    have a3 : decide ((65 : Int) ≤ (n : Int)) = true := decide_eq_true (by omega)
    have a4 : decide ((n : Int) ≤ 90) = true := decide_eq_true (by omega)
    clear h
    go_enter Tryz.func143, Tryz.ntmps143
    go_wp2
    go_ret
    exact ⟨by rw [HP.out]; rfl, rfl⟩
  · have HP := hp true (by simp [plainB, h]); clear hp
    have a1 : decide ((97 : Int) ≤ (n : Int)) = false := decide_eq_false (by omega)
    have a3 : decide ((65 : Int) ≤ (n : Int)) = false := decide_eq_false (by omega)
    have a5 : decide ((48 : Int) ≤ (n : Int)) = true := decide_eq_true (by omega)
    have a6 : decide ((n : Int) ≤ 57) = true := decide_eq_true (by omega)
    clear h
    go_enter Tryz.func143, Tryz.ntmps143
    go_wp2
    go_ret
    exact ⟨by rw [HP.out]; rfl, rfl⟩
  all_goals
    clear hp
    have HP : Hid (plainB n = decide (0 ≤ Lib.indexByte marksL n.toUInt8)) := by
      show plainB n = _
      have e1 : ¬ (97 ≤ n ∧ n ≤ 122) := by omega
      have e2 : ¬ (65 ≤ n ∧ n ≤ 90) := by omega
      have e3 : ¬ (48 ≤ n ∧ n ≤ 57) := by omega
      simp [plainB, e1, e2, e3]
    first | have a1 : decide ((97 : Int) ≤ (n : Int)) = true := decide_eq_true (by omega) | have a1 : decide ((97 : Int) ≤ (n : Int)) = false := decide_eq_false (by omega)
    first | have a2 : decide ((n : Int) ≤ 122) = true := decide_eq_true (by omega) | have a2 : decide ((n : Int) ≤ 122) = false := decide_eq_false (by omega)
    first | have a3 : decide ((65 : Int) ≤ (n : Int)) = true := decide_eq_true (by omega) | have a3 : decide ((65 : Int) ≤ (n : Int)) = false := decide_eq_false (by omega)
    first | have a4 : decide ((n : Int) ≤ 90) = true := decide_eq_true (by omega) | have a4 : decide ((n : Int) ≤ 90) = false := decide_eq_false (by omega)
    first | have a5 : decide ((48 : Int) ≤ (n : Int)) = true := decide_eq_true (by omega) | have a5 : decide ((48 : Int) ≤ (n : Int)) = false := decide_eq_false (by omega)
    first | have a6 : decide ((n : Int) ≤ 57) = true := decide_eq_true (by omega) | have a6 : decide ((n : Int) ≤ 57) = false := decide_eq_false (by omega)
    clear h
    go_enter Tryz.func143, Tryz.ntmps143
    go_wp2_with (go_at_call 104; refine (indexByte_any _ _ _).mono ?_; rintro e w' ⟨rfl, rfl⟩)
    go_ret
    exact ⟨by rw [HP.out]; rfl, rfl⟩
end Go.Proofs.YtdnbnigebejgjaaGreatDoor
namespace Go.Proofs.YtdnbnigebejgjaaGreatDoor
open Go.RowKit
/-- The value of a hexadecimal digit, and whether it is one. -/
def hexV (n : Nat) : Nat × Bool := if 48 ≤ n ∧ n ≤ 57 then (n - 48, true) else if 97 ≤ n ∧ n ≤ 102 then (n - 87, true) else if 65 ≤ n ∧ n ≤ 70 then (n - 55, true) else (0, false)
set_option maxHeartbeats 1000000 in
theorem hexValue_any (n : Int) (h0 : 0 ≤ n) (h1 : n < 256) (w : World) :
    Calls Tryz.prog 144 #[.int .u8 n] w fun e w' => e = .returned (.tuple #[.int .u8 ((hexV n.toNat).1 : Nat), .bool (hexV n.toNat).2]) ∧ w = w' := by
  obtain ⟨n, rfl⟩ := Int.eq_ofNat_of_zero_le h0
  rw [Int.toNat_natCast]
  have hp : ∀ b, hexV n = b → Hid (hexV n = b) := fun _ h => h
  have h : (97 ≤ n ∧ n ≤ 102) ∨ (65 ≤ n ∧ n ≤ 70) ∨ (48 ≤ n ∧ n ≤ 57) ∨ n < 48 ∨ (57 < n ∧ n < 65) ∨ (70 < n ∧ n < 97) ∨ 102 < n := by omega
  rcases h with h | h | h | h | h | h | h
  all_goals
    first
      | have HP := hp (n - 48, true) (by unfold hexV; rw [if_pos (by omega)])
      | have HP := hp (n - 87, true) (by unfold hexV; rw [if_neg (by omega), if_pos (by omega)])
      | have HP := hp (n - 55, true) (by unfold hexV; rw [if_neg (by omega), if_neg (by omega), if_pos (by omega)])
      | have HP := hp (0, false) (by unfold hexV; rw [if_neg (by omega), if_neg (by omega), if_neg (by omega)])
    clear hp
    first | have a1 : decide ((97 : Int) ≤ (n : Int)) = true := decide_eq_true (by omega) | have a1 : decide ((97 : Int) ≤ (n : Int)) = false := decide_eq_false (by omega)
    first | have a2 : decide ((n : Int) ≤ 102) = true := decide_eq_true (by omega) | have a2 : decide ((n : Int) ≤ 102) = false := decide_eq_false (by omega)
    first | have a3 : decide ((65 : Int) ≤ (n : Int)) = true := decide_eq_true (by omega) | have a3 : decide ((65 : Int) ≤ (n : Int)) = false := decide_eq_false (by omega)
    first | have a4 : decide ((n : Int) ≤ 70) = true := decide_eq_true (by omega) | have a4 : decide ((n : Int) ≤ 70) = false := decide_eq_false (by omega)
    first | have a5 : decide ((48 : Int) ≤ (n : Int)) = true := decide_eq_true (by omega) | have a5 : decide ((48 : Int) ≤ (n : Int)) = false := decide_eq_false (by omega)
    first | have a6 : decide ((n : Int) ≤ 57) = true := decide_eq_true (by omega) | have a6 : decide ((n : Int) ≤ 57) = false := decide_eq_false (by omega)
    go_enter Tryz.func144, Tryz.ntmps144
    go_wp2
    go_ret2
    refine ⟨?_, rfl⟩
    rw [HP.out]
    first | rfl | (simp; omega)
theorem ba_get (l : List UInt8) (i : Nat) (h : i < (ByteArray.mk l.toArray).size) : (ByteArray.mk l.toArray)[i]'h = l[i]'h := rfl
attribute [local go_sem] ba_get
theorem ba_extract (l : List UInt8) (a b : Nat) : (ByteArray.mk l.toArray).extract a b = ⟨((l.take b).drop a).toArray⟩ := by
  apply ByteArray.ext
  rw [ByteArray.data_extract]
  simp [List.extract_eq_take_drop, List.drop_take]
theorem ba_tail (b : UInt8) (r : List UInt8) : (ByteArray.mk (b :: r).toArray).extract 1 (r.length + 1) = ⟨r.toArray⟩ := by
  rw [ba_extract, show r.length + 1 = (b :: r).length from rfl, List.take_length]; rfl
theorem hexV_lt (n : Nat) : (hexV n).1 < 16 := by
  unfold hexV
  split
  · simp; omega
  · split
    · simp; omega
    · split
      · simp; omega
      · simp
theorem ba_tail4 (a b c d : UInt8) (r : List UInt8) : (ByteArray.mk (a :: b :: c :: d :: r).toArray).extract 4 (r.length + 1 + 1 + 1 + 1) = ⟨r.toArray⟩ := by
  rw [ba_extract, show r.length + 1 + 1 + 1 + 1 = (a :: b :: c :: d :: r).length from rfl, List.take_length]; rfl
/-- The byte with which a text begins, and what is behind it. -/
def readB : List UInt8 → Option (Nat × List UInt8)
  | [] => none
  | b :: r => if plainB b.toNat then some (b.toNat, r) else match b, r with
    | 92, 120 :: h1 :: h2 :: r' => if (hexV h1.toNat).2 && (hexV h2.toNat).2 then some (16 * (hexV h1.toNat).1 + (hexV h2.toNat).1, r') else none
    | _, _ => none
/-- What readByte returns where it can't read. -/
def NoByte (w : World) (e : Ending) (w' : World) : Prop := ∃ v s, e = .returned (.tuple #[.int .u8 v, .string s, .bool false]) ∧ w = w'
set_option maxHeartbeats 1000000 in
theorem readByte_nil (w : World) :
    Calls Tryz.prog 141 #[.string ⟨([] : List UInt8).toArray⟩] w fun e w' => e = .returned (.tuple #[.int .u8 0, .string ⟨([] : List UInt8).toArray⟩, .bool false]) ∧ w = w' := by
  go_enter Tryz.func141, Tryz.ntmps141
  go_wp2_with fail
  go_ret3
  exact ⟨rfl, rfl⟩
set_option maxHeartbeats 1000000 in
theorem readByte_plain (b : UInt8) (r : List UInt8) (hr : r.length < 1000000) (hp : plainB b.toNat = true) (w : World) :
    Calls Tryz.prog 141 #[.string ⟨(b :: r).toArray⟩] w fun e w' => e = .returned (.tuple #[.int .u8 b.toNat, .string ⟨r.toArray⟩, .bool true]) ∧ ∃ n, w' = w.drewN n := by
  have hb := b.toNat_lt
  have HP := Lib.hid hp
  clear hp
  go_enter Tryz.func141, Tryz.ntmps141
  go_wp2_with fail
  refine (isPlain_any _ (by omega) (by omega) _).mono ?_
  rintro e w' ⟨rfl, rfl⟩
  rw [Int.toNat_natCast, HP.out]
  go_wp2_with fail
  go_quiet (fail)
  go_wp2
  go_ret3
  exact ⟨by simp only [ba_tail]; rfl, ⟨_, rfl⟩⟩
set_option maxHeartbeats 1000000 in
theorem readByte_esc (h1 h2 : UInt8) (r : List UInt8) (hr : r.length < 1000000) (w : World) :
    Calls Tryz.prog 141 #[.string ⟨(92 :: 120 :: h1 :: h2 :: r).toArray⟩] w fun e w' => e = .returned (.tuple #[.int .u8 ((16 * (hexV h1.toNat).1 + (hexV h2.toNat).1 : Nat) : Int), .string ⟨r.toArray⟩, .bool ((hexV h1.toNat).2 && (hexV h2.toNat).2)]) ∧ ∃ n, w' = w.drewN n := by
  have hb1 := h1.toNat_lt
  have hb2 := h2.toNat_lt
  have HP := Lib.hid (show plainB 92 = false by decide +kernel)
  have hx : (ByteArray.mk (92 :: 120 :: h1 :: h2 :: r).toArray).extract 0 2 = ⟨#[92, 120]⟩ := by rw [ba_extract]; rfl
  go_enter Tryz.func141, Tryz.ntmps141
  go_wp2_with fail
  refine (isPlain_any _ (by omega) (by omega) _).mono ?_
  rintro e w' ⟨rfl, rfl⟩
  rw [show Int.toNat 92 = 92 from rfl, HP.out]
  go_wp2_with fail
  refine (hexValue_any _ (by omega) (by omega) _).mono ?_
  rintro e w' ⟨rfl, rfl⟩
  rw [Int.toNat_natCast]
  obtain ⟨⟨v1, o1⟩, e1⟩ : ∃ p, hexV h1.toNat = p := ⟨_, rfl⟩
  obtain ⟨⟨v2, o2⟩, e2⟩ : ∃ p, hexV h2.toNat = p := ⟨_, rfl⟩
  have l1 : v1 < 16 := by have := hexV_lt h1.toNat; rw [e1] at this; exact this
  have l2 : v2 < 16 := by have := hexV_lt h2.toNat; rw [e2] at this; exact this
  rw [e1]
  have E1 := Lib.hid e1
  have E2 := Lib.hid e2
  clear e1 e2
  dsimp only
  cases o1
  all_goals
    go_wp2_with fail
    refine (hexValue_any _ (by omega) (by omega) _).mono ?_
    rintro e w' ⟨rfl, rfl⟩
    rw [Int.toNat_natCast, E2.out]
    dsimp only
    go_wp2_with fail
    go_quiet (fail)
    go_wp2
    go_ret3
    refine ⟨?_, ⟨_, rfl⟩⟩
    rw [E1.out, E2.out]
    simp only [ba_tail4]
    rw [show ((16 * v1 + v2 : Nat) : Int) = 16 * (v1 : Int) + (v2 : Int) by omega]
    rfl
set_option maxHeartbeats 1000000 in
theorem readByte_short (b : UInt8) (r : List UInt8) (hr : r.length < 3) (hp : plainB b.toNat = false) (w : World) :
    Calls Tryz.prog 141 #[.string ⟨(b :: r).toArray⟩] w fun e w' => e = .returned (.tuple #[.int .u8 0, .string ⟨([] : List UInt8).toArray⟩, .bool false]) ∧ w = w' := by
  have hb := b.toNat_lt
  have HP := Lib.hid hp
  clear hp
  have hd : decide ((r.length : Int) + 1 < 4) = true := decide_eq_true (by omega)
  go_enter Tryz.func141, Tryz.ntmps141
  go_wp2_with fail
  refine (isPlain_any _ (by omega) (by omega) _).mono ?_
  rintro e w' ⟨rfl, rfl⟩
  rw [Int.toNat_natCast, HP.out]
  go_wp2_with fail
  go_ret3
  exact ⟨rfl, rfl⟩
set_option maxHeartbeats 1000000 in
theorem readByte_other (b c d f : UInt8) (r : List UInt8) (hr : r.length < 1000000) (hp : plainB b.toNat = false) (hn : ¬ (b = 92 ∧ c = 120)) (w : World) :
    Calls Tryz.prog 141 #[.string ⟨(b :: c :: d :: f :: r).toArray⟩] w fun e w' => e = .returned (.tuple #[.int .u8 0, .string ⟨([] : List UInt8).toArray⟩, .bool false]) ∧ w = w' := by
  have hb := b.toNat_lt
  have HP := Lib.hid hp
  clear hp
  have hd : decide ((r.length : Int) + 1 + 1 + 1 + 1 < 4) = false := decide_eq_false (by omega)
  have hx : (ByteArray.mk (b :: c :: d :: f :: r).toArray).extract 0 2 = ⟨#[b, c]⟩ := by rw [ba_extract]; rfl
  have hne : (b == 92) = false ∨ (c == 120) = false := by
    by_cases h : b = 92
    · right; simp; exact fun e => hn ⟨h, e⟩
    · left; simp; exact h
  rcases hne with hne | hne
  all_goals
    go_enter Tryz.func141, Tryz.ntmps141
    go_wp2_with fail
    refine (isPlain_any _ (by omega) (by omega) _).mono ?_
    rintro e w' ⟨rfl, rfl⟩
    rw [Int.toNat_natCast, HP.out]
    go_wp2_with fail
    go_ret3
    exact ⟨rfl, rfl⟩
/-- What readByte returns where the text begins with a byte. -/
theorem readByte_some (l : List UInt8) (hl : l.length < 1000000) (v : Nat) (r : List UInt8) (h : readB l = some (v, r)) (w : World) :
    Calls Tryz.prog 141 #[.string ⟨l.toArray⟩] w fun e w' => e = .returned (.tuple #[.int .u8 v, .string ⟨r.toArray⟩, .bool true]) ∧ ∃ n, w' = w.drewN n := by
  cases l with
  | nil => simp [readB] at h
  | cons b t =>
    simp only [readB] at h
    by_cases hp : plainB b.toNat = true
    · rw [if_pos hp] at h
      injection h with h
      injection h with h1 h2
      subst h1 h2
      exact readByte_plain b t (by simp at hl; omega) hp w
    · rw [if_neg hp] at h
      split at h
      · rename_i b' h1 h2 r' 
        split at h
        · rename_i hh
          injection h with h
          injection h with e1 e2
          subst e1 e2
          have := readByte_esc h1 h2 r' (by simp at hl; omega) w
          rw [hh] at this
          exact this
        · cases h
      · cases h
/-- .. and where it does not. -/
theorem readByte_none (l : List UInt8) (hl : l.length < 1000000) (h : readB l = none) (w : World) :
    Calls Tryz.prog 141 #[.string ⟨l.toArray⟩] w fun e w' => ∃ v s n, e = .returned (.tuple #[.int .u8 v, .string s, .bool false]) ∧ w' = w.drewN n := by
  cases l with
  | nil => exact (readByte_nil w).mono fun e w' ⟨he, hw⟩ => ⟨_, _, 0, he, hw.symm⟩
  | cons b t =>
    simp only [readB] at h
    by_cases hp : plainB b.toNat = true
    · rw [if_pos hp] at h; cases h
    · rw [if_neg hp] at h
      have hp' : plainB b.toNat = false := by simpa using hp
      split at h
      · rename_i b' h1 h2 r'
        split at h
        · cases h
        · rename_i hh
          have hh' : ((hexV h1.toNat).2 && (hexV h2.toNat).2) = false := by simpa using hh
          have := readByte_esc h1 h2 r' (by simp at hl; omega) w
          rw [hh'] at this
          exact this.mono fun e w' ⟨he, n, hw⟩ => ⟨_, _, n, he, hw⟩
      · rename_i hno
        by_cases hs : t.length < 3
        · exact (readByte_short b t hs hp' w).mono fun e w' ⟨he, hw⟩ => ⟨_, _, 0, he, hw.symm⟩
        · match t, hs with
          | c :: d :: f :: r, _ =>
            refine (readByte_other b c d f r (by simp at hl; omega) hp' ?_ w).mono fun e w' ⟨he, hw⟩ => ⟨_, _, 0, he, hw.symm⟩
            rintro ⟨rfl, rfl⟩
            exact hno _ _ _ rfl rfl
          | [], hs => simp at hs
          | [_], hs => simp at hs
          | [_, _], hs => simp at hs
end Go.Proofs.YtdnbnigebejgjaaGreatDoor
