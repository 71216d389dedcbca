/-
  The reference's trim for every text.
-/
import Derived.Test.YtekbahpobhjobaaDoorNWrite
import Derived.Deep.CutBlock
namespace Go.Proofs.YtekbahpobhjobaaDoor
open Go.RowKit
attribute [local go_sem] ba_get
def isBl (c : UInt8) : Bool := c == 32 || c == 9
def tl (l : List UInt8) : List UInt8 := l.dropWhile isBl
def tr (l : List UInt8) : List UInt8 := (l.reverse.dropWhile isBl).reverse
def trimL (l : List UInt8) : List UInt8 := tr (tl l)
theorem ba_tail (c : UInt8) (r : List UInt8) : (ByteArray.mk (c :: r).toArray).extract 1 (r.length + 1) = ⟨r.toArray⟩ := by
  apply ByteArray.ext
  rw [ByteArray.data_extract, List.extract_toArray, List.extract_eq_take_drop]
  simp
theorem ba_init (c : UInt8) (r : List UInt8) : (ByteArray.mk (r ++ [c]).toArray).extract 0 r.length = ⟨r.toArray⟩ := by
  apply ByteArray.ext
  rw [ByteArray.data_extract, List.extract_toArray, List.extract_eq_take_drop]
  simp
theorem tr_snoc (r : List UInt8) (c : UInt8) : tr (r ++ [c]) = if isBl c then tr r else r ++ [c] := by
  unfold tr
  rw [List.reverse_append]
  show (List.dropWhile isBl (c :: r.reverse)).reverse = _
  rw [List.dropWhile_cons]
  split
  · rfl
  · simp
theorem tl_cons (c : UInt8) (r : List UInt8) : tl (c :: r) = if isBl c then tl r else c :: r := by
  unfold tl
  rw [List.dropWhile_cons]
theorem tl_length (l : List UInt8) : (tl l).length ≤ l.length := (List.dropWhile_sublist _).length_le
/-- How long a string is. -/
def strLen : Value → Nat
  | .string s => s.data.size
  | _ => 0
set_option maxHeartbeats 2000000 in
theorem refTrim_any (l : List UInt8) (hl : l.length < 1000000) (w : World) :
    Calls Tryd.prog 34 #[.string ⟨l.toArray⟩] w fun e w' => e = .returned (.string ⟨(trimL l).toArray⟩) ∧ w = w' := by
  obtain ⟨T, hT⟩ : ∃ T, tl l = T := ⟨_, rfl⟩
  obtain ⟨R, hR⟩ : ∃ R, tr T = R := ⟨_, rfl⟩
  have hTl : T.length ≤ l.length := by rw [← hT]; exact tl_length l
  rw [show trimL l = R by unfold trimL; rw [hT, hR]]
  have HT := Lib.hid hT
  have HR := Lib.hid hR
  clear hT hR
  go_enter Tryd.func34, Tryd.ntmps34
  go_upto_block 0 with (fail)
  go_cut [0] (fun s wx => s = .string ⟨T.toArray⟩ ∧ w = wx)
  case first =>
    go_wp2_with fail
    go_loopw [0] (fun s wr => ∃ r : List UInt8, s = .string ⟨r.toArray⟩ ∧ r.length ≤ l.length ∧ Hid (tl r = T) ∧ w = wr) (fun s _ => strLen s)
    case atStart => exact ⟨l, rfl, Nat.le_refl _, HT, rfl⟩
    case round =>
      obtain ⟨r, rfl, hr, ht, rfl⟩ := hrel
      cases r with
      | nil =>
        have hT0 : Hid (T = []) := Lib.hid (by rw [← ht.out]; rfl)
        go_wp2_with fail
        go_meet
        exact ⟨by rw [hT0.out], rfl⟩
      | cons c r =>
        have htc := tl_cons c r
        obtain ⟨y, hy⟩ : ∃ y, c.toNat = y := ⟨_, rfl⟩
        have g1 := ba_tail c r
        have hyc : isBl c = (y == 32 || y == 9) := by
          have e : ∀ k : UInt8, (c == k) = (y == k.toNat) := fun k => by
            rw [← hy, Bool.eq_iff_iff, beq_iff_eq, beq_iff_eq]; exact UInt8.toNat_inj.symm
          unfold isBl
          rw [e, e]; rfl
        have hrl : r.length + 1 ≤ l.length := by simpa using hr
        cases hb : isBl c
        · rw [hb] at htc hyc
          have h32 : (y == 32) = false ∧ (y == 9) = false := by simpa using hyc.symm
          obtain ⟨e1, e2⟩ := h32
          have e3 : ((y : Int) == 32) = false := by rw [beq_eq_false_iff_ne] at e1 ⊢; omega
          have e4 : ((y : Int) == 9) = false := by rw [beq_eq_false_iff_ne] at e2 ⊢; omega
          have hT0 : Hid (T = c :: r) := Lib.hid (by rw [← ht.out, htc]; rfl)
          clear htc hyc hb
          go_wp2_with fail
          go_meet
          exact ⟨by rw [hT0.out], rfl⟩
        · rw [hb] at htc hyc
          have hnext : Hid (tl r = T) := Lib.hid (by rw [← ht.out, htc]; rfl)
          by_cases e1 : y = 32
          · subst e1
            clear htc hyc hb
            go_wp2_with fail
            go_roundw
            case rel => exact ⟨r, rfl, by omega, hnext, by simp⟩
            case measure => simp [strLen]
          · have e2 : y = 9 := by
              have := hyc.symm
              simp [e1] at this
              exact this
            subst e2
            clear htc hyc hb
            go_wp2_with fail
            go_roundw
            case rel => exact ⟨r, rfl, by omega, hnext, by simp⟩
            case measure => simp [strLen]
  case rest =>
  obtain ⟨rfl, rfl⟩ := hcut
  go_wp2_with fail
  go_loopw [0] (fun s wr => ∃ r : List UInt8, s = .string ⟨r.toArray⟩ ∧ r.length ≤ l.length ∧ Hid (tr r = R) ∧ w = wr) (fun s _ => strLen s)
  case atStart => exact ⟨T, rfl, hTl, HR, rfl⟩
  case round =>
    obtain ⟨r, rfl, hr, ht, rfl⟩ := hrel
    rcases List.eq_nil_or_concat r with h0 | ⟨r, c, h0⟩
    · subst h0
      have hres : Hid (R = []) := Lib.hid (by rw [← ht.out]; rfl)
      go_wp2_with fail
      go_ret
      exact ⟨by rw [hres.out]; rfl, rfl⟩
    · rw [List.concat_eq_append] at h0
      subst h0
      have htc := tr_snoc r c
      obtain ⟨y, hy⟩ : ∃ y, c.toNat = y := ⟨_, rfl⟩
      have g1 := ba_init c r
      have hne : (r ++ [c]).isEmpty = false := by simp
      have hge : ∀ h, (r ++ [c])[r.length]'h = c := fun h => by simp
      have hyc : isBl c = (y == 32 || y == 9) := by
        have e : ∀ k : UInt8, (c == k) = (y == k.toNat) := fun k => by
          rw [← hy, Bool.eq_iff_iff, beq_iff_eq, beq_iff_eq]; exact UInt8.toNat_inj.symm
        unfold isBl
        rw [e, e]; rfl
      have hrl : r.length + 1 ≤ l.length := by simpa using hr
      cases hb : isBl c
      · rw [hb] at htc hyc
        have h32 : (y == 32) = false ∧ (y == 9) = false := by simpa using hyc.symm
        obtain ⟨e1, e2⟩ := h32
        have e3 : ((y : Int) == 32) = false := by rw [beq_eq_false_iff_ne] at e1 ⊢; omega
        have e4 : ((y : Int) == 9) = false := by rw [beq_eq_false_iff_ne] at e2 ⊢; omega
        have hres : Hid (R = r ++ [c]) := Lib.hid (by rw [← ht.out, htc]; rfl)
        clear htc hyc hb
        go_wp2_with fail
        go_ret
        exact ⟨by rw [hres.out]; rfl, rfl⟩
      · rw [hb] at htc hyc
        have hnext : Hid (tr r = R) := Lib.hid (by rw [← ht.out, htc]; rfl)
        by_cases e1 : y = 32
        · subst e1
          clear htc hyc hb
          go_wp2_with fail
          go_roundw
          case rel => exact ⟨r, rfl, by omega, hnext, by simp⟩
          case measure => simp [strLen]
        · have e2 : y = 9 := by
            have := hyc.symm
            simp [e1] at this
            exact this
          subst e2
          clear htc hyc hb
          go_wp2_with fail
          go_roundw
          case rel => exact ⟨r, rfl, by omega, hnext, by simp⟩
          case measure => simp [strLen]
end Go.Proofs.YtekbahpobhjobaaDoor
