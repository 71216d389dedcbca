/-
  The reference's Trim and Value for every text.
-/
import Derived.Test.YtbafmiejgpgamaaGreatDoorCRef1
import Derived.Deep.CutBlock
namespace Go.Proofs.YtbafmiejgpgamaaGreatDoor
open Go.RowKit
attribute [local go_sem] ba_get
def tl (l : List UInt8) : List UInt8 := l.dropWhile isBl
def tr (l : List UInt8) : List UInt8 := (l.reverse.dropWhile isBl).reverse
def trimL (l : List UInt8) : List UInt8 := tr (tl l)
theorem ba_tail (c : UInt8) (r : List UInt8) : (ByteArray.mk (c :: r).toArray).extract 1 (r.length + 1) = ⟨r.toArray⟩ := by
  apply ByteArray.ext
  rw [ByteArray.data_extract, List.extract_toArray, List.extract_eq_take_drop]
  simp
theorem ba_init (c : UInt8) (r : List UInt8) : (ByteArray.mk (r ++ [c]).toArray).extract 0 r.length = ⟨r.toArray⟩ := by
  apply ByteArray.ext
  rw [ByteArray.data_extract, List.extract_toArray, List.extract_eq_take_drop]
  simp
theorem tr_snoc (r : List UInt8) (c : UInt8) : tr (r ++ [c]) = if isBl c then tr r else r ++ [c] := by
  unfold tr
  rw [List.reverse_append]
  show (List.dropWhile isBl (c :: r.reverse)).reverse = _
  rw [List.dropWhile_cons]
  split
  · rfl
  · simp
theorem tl_cons (c : UInt8) (r : List UInt8) : tl (c :: r) = if isBl c then tl r else c :: r := by
  unfold tl
  rw [List.dropWhile_cons]
theorem tl_length (l : List UInt8) : (tl l).length ≤ l.length := (List.dropWhile_sublist _).length_le
theorem trim_length (l : List UInt8) : (trimL l).length ≤ l.length := by
  unfold trimL tr
  rw [List.length_reverse]
  exact Nat.le_trans (List.dropWhile_sublist _).length_le (by rw [List.length_reverse]; exact tl_length l)
/-- How long a string is. -/
def strLen : Value → Nat
  | .string s => s.data.size
  | _ => 0
set_option maxHeartbeats 2000000 in
theorem refTrim_any (l : List UInt8) (hl : l.length < 200000000000000) (w : World) :
    Calls Tryz.prog 72 #[.string ⟨l.toArray⟩] w fun e w' => e = .returned (.string ⟨(trimL l).toArray⟩) ∧ w = w' := by
  obtain ⟨T, hT⟩ : ∃ T, tl l = T := ⟨_, rfl⟩
  obtain ⟨R, hR⟩ : ∃ R, tr T = R := ⟨_, rfl⟩
  have hTl : T.length ≤ l.length := by rw [← hT]; exact tl_length l
  rw [show trimL l = R by unfold trimL; rw [hT, hR]]
  have HT := Lib.hid hT
  have HR := Lib.hid hR
  clear hT hR
  go_enter Tryz.func72, Tryz.ntmps72
  go_upto_block 0 with (fail)
  go_cut [0] (fun s wx => s = .string ⟨T.toArray⟩ ∧ w = wx)
  case first =>
    go_wp2_with fail
    go_loopw [0] (fun s wr => ∃ r : List UInt8, s = .string ⟨r.toArray⟩ ∧ r.length ≤ l.length ∧ Hid (tl r = T) ∧ w = wr) (fun s _ => strLen s)
    case atStart => exact ⟨l, rfl, Nat.le_refl _, HT, rfl⟩
    case round =>
      obtain ⟨r, rfl, hr, ht, rfl⟩ := hrel
      cases r with
      | nil =>
        have hT0 : Hid (T = []) := Lib.hid (by rw [← ht.out]; rfl)
        go_wp2_with fail
        go_meet
        exact ⟨by rw [hT0.out], rfl⟩
      | cons c r =>
        have htc := tl_cons c r
        have hlt2 : c.toNat < 256 := UInt8.toNat_lt c
        have g1 := ba_tail c r
        have hrl : r.length + 1 ≤ l.length := by simpa using hr
        cases hb : isBl c
        · rw [hb] at htc
          have HQ : Hid (blN c.toNat = false) := hb
          have hT0 : Hid (T = c :: r) := Lib.hid (by rw [← ht.out, htc]; rfl)
          clear htc hb
          go_wp2_with fail
          refine (refBlank_any c.toNat hlt2 _).mono ?_
          rintro e w' ⟨rfl, rfl⟩
          rw [HQ.out]
          go_wp2_with fail
          go_meet
          exact ⟨by rw [hT0.out], rfl⟩
        · rw [hb] at htc
          have HQ : Hid (blN c.toNat = true) := hb
          have hnext : Hid (tl r = T) := Lib.hid (by rw [← ht.out, htc]; rfl)
          clear htc hb
          go_wp2_with fail
          refine (refBlank_any c.toNat hlt2 _).mono ?_
          rintro e w' ⟨rfl, rfl⟩
          rw [HQ.out]
          go_wp2_with fail
          go_roundw
          case rel => exact ⟨r, rfl, by omega, hnext, by simp⟩
          case measure => simp [strLen]
  case rest =>
  obtain ⟨rfl, rfl⟩ := hcut
  go_wp2_with fail
  go_loopw [0] (fun s wr => ∃ r : List UInt8, s = .string ⟨r.toArray⟩ ∧ r.length ≤ l.length ∧ Hid (tr r = R) ∧ w = wr) (fun s _ => strLen s)
  case atStart => exact ⟨T, rfl, hTl, HR, rfl⟩
  case round =>
    obtain ⟨r, rfl, hr, ht, rfl⟩ := hrel
    rcases List.eq_nil_or_concat r with h0 | ⟨r, c, h0⟩
    · subst h0
      have hres : Hid (R = []) := Lib.hid (by rw [← ht.out]; rfl)
      go_wp2_with fail
      go_ret
      exact ⟨by rw [hres.out]; rfl, rfl⟩
    · rw [List.concat_eq_append] at h0
      subst h0
      have htc := tr_snoc r c
      have hlt2 : c.toNat < 256 := UInt8.toNat_lt c
      have g1 := ba_init c r
      have hne : (r ++ [c]).isEmpty = false := by simp
      have hge : ∀ h, (r ++ [c])[r.length]'h = c := fun h => by simp
      have hrl : r.length + 1 ≤ l.length := by simpa using hr
      cases hb : isBl c
      · rw [hb] at htc
        have HQ : Hid (blN c.toNat = false) := hb
        have hres : Hid (R = r ++ [c]) := Lib.hid (by rw [← ht.out, htc]; rfl)
        clear htc hb
        go_wp2_with fail
        refine (refBlank_any c.toNat hlt2 _).mono ?_
        rintro e w' ⟨rfl, rfl⟩
        rw [HQ.out]
        go_wp2_with fail
        go_ret
        exact ⟨by rw [hres.out]; rfl, rfl⟩
      · rw [hb] at htc
        have HQ : Hid (blN c.toNat = true) := hb
        have hnext : Hid (tr r = R) := Lib.hid (by rw [← ht.out, htc]; rfl)
        clear htc hb
        go_wp2_with fail
        refine (refBlank_any c.toNat hlt2 _).mono ?_
        rintro e w' ⟨rfl, rfl⟩
        rw [HQ.out]
        go_wp2_with fail
        go_roundw
        case rel => exact ⟨r, rfl, by omega, hnext, by simp⟩
        case measure => simp [strLen]
/-- A value. -/
def valV (l : List UInt8) : Bool := l.all inB && (trimL l == l)
set_option maxHeartbeats 1000000 in
theorem refValue_any (l : List UInt8) (hl : l.length < 200000000000000) (w : World) :
    Calls Tryz.prog 71 #[.string ⟨l.toArray⟩] w fun e w' => e = .returned (.bool (valV l)) ∧ w = w' := by
  obtain ⟨q, hq⟩ : ∃ q, l.all inB = q := ⟨_, rfl⟩
  obtain ⟨T, hT⟩ : ∃ T, trimL l = T := ⟨_, rfl⟩
  obtain ⟨p, hp⟩ : ∃ p, (T == l) = p := ⟨_, rfl⟩
  have HV : Hid (valV l = (q && p)) := Lib.hid (by unfold valV; rw [hq, hT, hp])
  have HQ := Lib.hid hq
  have HT := Lib.hid hT
  rw [HV.out]
  clear hq hT
  cases q
  · go_enter Tryz.func71, Tryz.ntmps71
    go_wp2_with fail
    refine (refInner_any l hl _).mono ?_
    rintro e w' ⟨rfl, rfl⟩
    rw [HQ.out]
    go_wp2_with fail
    go_ret
    exact ⟨rfl, rfl⟩
  · go_enter Tryz.func71, Tryz.ntmps71
    go_wp2_with fail
    refine (refInner_any l hl _).mono ?_
    rintro e w' ⟨rfl, rfl⟩
    rw [HQ.out]
    go_wp2_with fail
    refine (refTrim_any l hl _).mono ?_
    rintro e w' ⟨rfl, rfl⟩
    rw [HT.out]
    go_wp2_with fail
    go_ret
    exact ⟨rfl, rfl⟩
end Go.Proofs.YtbafmiejgpgamaaGreatDoor
