/-
  byteset.appendByte, for every byte, onto a slice that the caller has made and that holds fewer than 100,000 bytes.
-/
import Derived.Test.YtbpnhiejmkeclaaDoorList
import Derived.Test.YtbpnhiejmkeclaaDoorPlain
import Derived.BigQuiet
import Derived.Deep.AppendLies
import Derived.Deep.RegionLaw
import Derived.Deep.QuietTactic
namespace Go.Proofs.YtbpnhiejmkeclaaDoor
open Go.RowKit Go.Shelf
/-- The hexadecimal digits. -/
def hexL : List UInt8 := [48, 49, 50, 51, 52, 53, 54, 55, 56, 57, 97, 98, 99, 100, 101, 102]
def hexD (n : Nat) : Nat := ((hexL[n]?).getD 0).toNat
/-- How a byte is written. -/
def written (n : Nat) : List Nat := if plainB n then [n] else [92, 120, hexD (n / 16), hexD (n % 16)]
def encB (x : Nat) : Value := .int .u8 (x : Int)
theorem hex_get (i : Nat) (h : i < (ByteArray.mk #[48, 49, 50, 51, 52, 53, 54, 55, 56, 57, 97, 98, 99, 100, 101, 102]).size) : ((ByteArray.mk #[48, 49, 50, 51, 52, 53, 54, 55, 56, 57, 97, 98, 99, 100, 101, 102])[i]'h).toNat = hexD i := by
  unfold hexD
  rw [List.getElem?_eq_getElem (show i < hexL.length from h)]
  rfl
theorem grown_drew {w w' : World} {r : Option Nat} (h : w.grownBy w' r) : w.grownBy w'.drew r := ⟨h.os, h.tape, h.output, h.size, h.block⟩
set_option maxHeartbeats 1000000 in
/-- appendByte, onto a slice that the call's own memory (from base on) holds. -/
theorem appendByte_any (base : Nat) (v : Value) (n : Nat) (xs : List Nat) (b : Nat) (hb : b < 256) (hn : n < 100000) (w : World) (hbase : base ≤ w.heap.size) (hrow : w.ownsRow base 5 1 v n (xs.map encB)) :
    Calls Tryd.prog 48 #[v, .int .u8 b] w fun e w' => ∃ v', e = .returned v' ∧ w'.ownsRow base 5 1 v' (n + (written b).length) ((xs ++ written b).map encB) ∧ w.grownBy w' v.ownBlock := by
  obtain ⟨i0, hi, hz0, hz1, hz2⟩ := info_parts info5
  by_cases hp : plainB b = true
  · have HW : Hid (written b = [b]) := if_pos hp
    have HP := Lib.hid hp
    clear hp
    go_enter Tryd.func48, Tryd.ntmps48
    go_wp2_with fail
    refine (isPlain_any _ (by omega) (by omega) _).mono ?_
    rintro e w' ⟨rfl, rfl⟩
    rw [Int.toNat_natCast, HP.out]
    go_wp2_with (at_builtin; refine wpList_append_own _ rfl _ _ 31 rfl base 5 i0 (.int .u8 0) 1 1 Tryd.underlying31 hi hz0 hz1 hz2 rfl (by decide) _ _ _ rfl (hrow.alloc _) ⟨w.heap.size, 0, none⟩ 1 1 [.int .u8 b] rfl rfl (cell_one_new _ _ _) (by simp [Value.oneCell']) (by unfold maxLen; omega) (by omega) (by simp; omega) ?_; intro v' w1 hown' hgrow _)
    go_ret
    refine ⟨v', rfl, ?_, (World.grownBy_alloc w _ _).trans hgrow⟩
    rw [HW.out]
    simpa [encB] using hown'
  · have HW : Hid (written b = [92, 120, hexD (b / 16), hexD (b % 16)]) := if_neg hp
    have hp' : plainB b = false := by simpa using hp
    have HP := Lib.hid hp'
    clear hp hp'
    go_enter Tryd.func48, Tryd.ntmps48
    go_wp2_with fail
    refine (isPlain_any _ (by omega) (by omega) _).mono ?_
    rintro e w' ⟨rfl, rfl⟩
    rw [Int.toNat_natCast, HP.out]
    go_wp2_with fail
    have q1 : IntKind.u8.wrap ((b : Int) / 16) = ((b / 16 : Nat) : Int) := by rw [IntKind.wrap_u8']; omega
    have q2 : ((b : Int)).tmod 16 = ((b % 16 : Nat) : Int) := by rw [Int.tmod_eq_emod_of_nonneg (by omega)]; omega
    have i1 : 0 ≤ (b : Int) / 16 ∧ (b : Int) / 16 < 16 := ⟨by omega, by omega⟩
    have i2 : 0 ≤ (b : Int) % 16 ∧ (b : Int) % 16 < 16 := ⟨by omega, by omega⟩
    go_region_law (refine step_append_lies _ rfl _ _ 31 rfl base 5 i0 (.int .u8 0) 1 1 Tryd.underlying31 hi hz0 hz1 hz2 rfl (by decide) v n (xs.map encB) rfl ((hrow.alloc _).drew) ⟨w.heap.size, 0, none⟩ 4 4 [.int .u8 92, .int .u8 120, .int .u8 _, .int .u8 _] rfl rfl (World.news_of_block (heap_alloc_new w _)) (by simp [Value.oneCell']) (by decide) (by unfold maxLen; omega) (by omega) (by simp; omega) _ rfl ?_; intro g cap w1 hown1 hgrow1 _ _)
    all_goals
      go_wp2
      go_ret
      refine ⟨.slice (some ⟨g, 0, none⟩) (n + 4) cap, rfl, ?_, (grown_drew (World.grownBy_alloc w _ _)).trans hgrow1⟩
      rw [HW.out]
      have e1 : ((b : Int) / 16).toNat = b / 16 := by omega
      have e2 : ((b : Int) % 16).toNat = b % 16 := by omega
      simp only [hex_get, e1, e2] at hown1
      simpa [encB] using hown1
end Go.Proofs.YtbpnhiejmkeclaaDoor
