/-
  Slices of bytes that the call's own memory holds: what an append, a call and a conversion to a string make of them. No condition.
-/
import Derived.Test.YtacceiloggnekaaDoorRPBare
import Derived.Test.YtacceiloggnekaaDoorRRows
import Derived.Maps.AppendAt
import Derived.Deep.AppendLies
import Derived.Deep.RegionLaw
namespace Go.Proofs.YtacceiloggnekaaDoor
open Go.RowKit
theorem infoB : (Tryd.prog.info? 5).map (fun i => (i.zero, i.size, i.bytes)) = some (some (.int .u8 0), 1, 1) := by kernel_rfl
theorem belowGrown {W W' : World} (h : Below W.heap.size W W') : W.grownBy W' none := ⟨h.os, h.tape, h.output, h.size, fun k hk _ => h.block k hk⟩
theorem own_ge {W : World} {base : Nat} {e : TypeId} {size n : Nat} {v : Value} {xs : List Value} (h : W.ownsRow base e size v n xs) (m : Nat) (hm : m ≤ base) : ∀ r, v.ownBlock = some r → m ≤ r := fun r hr => Nat.le_trans hm (h.lt r hr).1
theorem own_down {W : World} {base base' : Nat} {e : TypeId} {size n : Nat} {v : Value} {xs : List Value} (h : W.ownsRow base e size v n xs) (hb : base' ≤ base) : W.ownsRow base' e size v n xs :=
  ⟨h.1, h.2.imp id fun ⟨g, cap, cur, e1, e2, e3⟩ => ⟨g, cap, cur, e1, Nat.le_trans hb e2, e3⟩⟩
theorem grown_drew {w w' : World} {r : Option Nat} (h : w.grownBy w' r) : w.grownBy w'.drew r := ⟨h.os, h.tape, h.output, h.size, h.block⟩
def encU (b : UInt8) : Value := .int .u8 (b.toNat : Int)
theorem encU_one (l : List UInt8) : ∀ u ∈ l.map encU, u.oneCell' = true := fun u hu => by
  obtain ⟨x, _, rfl⟩ := List.mem_map.1 hu
  rfl
/-- Bytes of one's own. -/
def Byts (w : World) (base : Nat) (v : Value) (L : List UInt8) : Prop := w.ownsRow base 5 1 v L.length (L.map encU)
theorem owned_text {W : World} {base : Nat} {v : Value} {L : List UInt8} (h : Byts W base v L) : (convert 65 9 v).run Tryd.prog W = .ok (.string ⟨L.toArray⟩) W := by
  rcases h.2 with ⟨rfl, h0⟩ | ⟨g, cap, cur, rfl, hg, hh, h1, h2, h3, h4⟩
  · obtain rfl : L = [] := List.eq_nil_of_length_eq_zero h0
    rw [run_convert_bytes_string W 65 9 5 none 0 0 Tryd.underlying65 Tryd.underlying5 Tryd.underlying9]
    rfl
  · refine run_convert_bytes_back (P := Tryd.prog) W 65 9 5 ⟨g, 0, none⟩ cap L Tryd.underlying65 Tryd.underlying5 Tryd.underlying9 (fun j hj => ?_)
    rw [Addr.add_lit, Nat.zero_add, cell_of_row W g j cur _ _ hh]
    have e1 : (cur.toList.take (L.length * 1))[j]? = (L.map encU)[j]? := by rw [h4]
    rw [List.getElem?_take_of_lt (by omega)] at e1
    rw [← Array.getElem?_toList, e1, List.getElem?_map, List.getElem?_eq_getElem hj]
    rfl
theorem byts_slice {w : World} {base : Nat} {v : Value} {L : List UInt8} (h : Byts w base v L) : ∃ p c, v = .slice p L.length c := own_slice h
theorem Byts.kept {W W' : World} {base : Nat} {v : Value} {L : List UInt8} (h : Byts W base v L) {row : Option Nat} (hg : W.grownBy W' row) (hr : v.ownBlock = none ∨ v.ownBlock ≠ row) : Byts W' base v L := World.ownsRow.kept h hg hr
theorem hexA_get (i : Nat) (h : i < (ByteArray.mk #[48, 49, 50, 51, 52, 53, 54, 55, 56, 57, 97, 98, 99, 100, 101, 102]).size) : (ByteArray.mk #[48, 49, 50, 51, 52, 53, 54, 55, 56, 57, 97, 98, 99, 100, 101, 102])[i]'h = hexC i := by
  unfold hexC
  rw [List.getElem?_eq_getElem (show i < hexU.length from h)]
  rfl
set_option maxHeartbeats 2000000 in
/-- appendByte, onto a slice that the call's own memory (from base on) holds. -/
theorem appendByte_any (base : Nat) (v : Value) (L : List UInt8) (b : UInt8) (hn : L.length < 10000000) (w : World) (hbase : base ≤ w.heap.size) (hrow : Byts w base v L) :
    Calls Tryd.prog 42 #[v, .int .u8 (b.toNat : Int)] w fun e w' => ∃ v', e = .returned v' ∧ Byts w' base v' (L ++ escB b) ∧ w.grownBy w' v.ownBlock := by
  obtain ⟨i0, hi, hz0, hz1, hz2⟩ := info_parts infoB
  have hb : b.toNat < 256 := UInt8.toNat_lt _
  obtain ⟨y, hy⟩ : ∃ y, b.toNat = y := ⟨_, rfl⟩
  have HE : Hid (escB b = if y = 34 ∨ y = 92 then [92, b] else if 32 ≤ y ∧ y < 127 then [b] else [92, 120, hexC (y / 16), hexC (y % 16)]) := Lib.hid (by unfold escB; rw [hy])
  have HB : Hid (encU b = .int .u8 (y : Int)) := Lib.hid (by unfold encU; rw [hy])
  rw [hy] at hb ⊢
  clear hy
  unfold Byts at hrow
  by_cases hq : y = 34 ∨ y = 92
  · have HW : Hid (escB b = [92, b]) := Lib.hid (by rw [HE.out, if_pos hq])
    have HQ : Hid (esN y = true) := Lib.hid (by unfold esN; rcases hq with h | h <;> simp [h])
    clear hq
    go_enter Tryd.func42, Tryd.ntmps42
    go_wp2_with fail
    refine (escaped_any _ hb _).mono ?_
    rintro e w' ⟨rfl, rfl⟩
    rw [HQ.out]
    go_wp2_with (at_builtin; refine wpList_append_own _ rfl _ _ 65 rfl base 5 i0 (.int .u8 0) 1 1 Tryd.underlying65 hi hz0 hz1 hz2 rfl (by decide) _ _ _ rfl (hrow.alloc _) ⟨w.heap.size, 0, none⟩ 2 2 [.int .u8 92, .int .u8 (y : Int)] rfl rfl (cell_news w _ _) (by simp [Value.oneCell']) (by unfold maxLen; omega) (by omega) (by simp; omega) ?_; intro v' w1 hown' hgrow _)
    go_ret
    refine ⟨v', rfl, ?_, (World.grownBy_alloc w _ _).trans hgrow⟩
    unfold Byts
    rw [HW.out, List.length_append, List.map_append]
    simp only [List.map_cons, List.map_nil, HB.out]
    exact hown'
  · have HQ : Hid (esN y = false) := Lib.hid (by unfold esN; simp only [Bool.or_eq_false_iff, beq_eq_false_iff_ne]; omega)
    by_cases hp : 32 ≤ y ∧ y < 127
    · have HW : Hid (escB b = [b]) := Lib.hid (by rw [HE.out, if_neg hq, if_pos hp])
      have HP : Hid (prN y = true) := Lib.hid (by unfold prN; simp only [Bool.and_eq_true, decide_eq_true_eq]; omega)
      clear hq hp
      go_enter Tryd.func42, Tryd.ntmps42
      go_wp2_with fail
      refine (escaped_any _ hb _).mono ?_
      rintro e w' ⟨rfl, rfl⟩
      rw [HQ.out]
      go_wp2_with fail
      refine (printed_any _ hb _).mono ?_
      rintro e w' ⟨rfl, rfl⟩
      rw [HP.out]
      go_wp2_with (at_builtin; refine wpList_append_own _ rfl _ _ 65 rfl base 5 i0 (.int .u8 0) 1 1 Tryd.underlying65 hi hz0 hz1 hz2 rfl (by decide) _ _ _ rfl (hrow.alloc _) ⟨w.heap.size, 0, none⟩ 1 1 [.int .u8 (y : Int)] rfl rfl (cell_news w _ _) (by simp [Value.oneCell']) (by unfold maxLen; omega) (by omega) (by simp; omega) ?_; intro v' w1 hown' hgrow _)
      go_ret
      refine ⟨v', rfl, ?_, (World.grownBy_alloc w _ _).trans hgrow⟩
      unfold Byts
      rw [HW.out, List.length_append, List.map_append]
      simp only [List.map_cons, List.map_nil, HB.out]
      exact hown'
    · have HW : Hid (escB b = [92, 120, hexC (y / 16), hexC (y % 16)]) := Lib.hid (by rw [HE.out, if_neg hq, if_neg hp])
      have HP : Hid (prN y = false) := Lib.hid (by unfold prN; simp only [Bool.and_eq_false_iff, decide_eq_false_iff_not]; omega)
      have q1 : IntKind.u8.wrap ((y : Int) / 16) = ((y / 16 : Nat) : Int) := by rw [IntKind.wrap_u8']; omega
      have q2 : ((y : Int)).tmod 16 = ((y % 16 : Nat) : Int) := by rw [Int.tmod_eq_emod_of_nonneg (by omega)]; omega
      have i1 : 0 ≤ (y : Int) / 16 ∧ (y : Int) / 16 < 16 := ⟨by omega, by omega⟩
      have i2 : 0 ≤ (y : Int) % 16 ∧ (y : Int) % 16 < 16 := ⟨by omega, by omega⟩
      clear hq hp
      go_enter Tryd.func42, Tryd.ntmps42
      go_wp2_with fail
      refine (escaped_any _ hb _).mono ?_
      rintro e w' ⟨rfl, rfl⟩
      rw [HQ.out]
      go_wp2_with fail
      refine (printed_any _ hb _).mono ?_
      rintro e w' ⟨rfl, rfl⟩
      rw [HP.out]
      go_wp2_with fail
      go_region_law (refine step_append_lies _ rfl _ _ 65 rfl base 5 i0 (.int .u8 0) 1 1 Tryd.underlying65 hi hz0 hz1 hz2 rfl (by decide) v L.length (L.map encU) rfl ((hrow.alloc _).drew) ⟨w.heap.size, 0, none⟩ 4 4 [.int .u8 92, .int .u8 120, .int .u8 _, .int .u8 _] rfl rfl (World.news_of_block (heap_alloc_new w _)) (by simp [Value.oneCell']) (by decide) (by unfold maxLen; omega) (by omega) (by simp; omega) _ rfl ?_; intro g cap w1 hown1 hgrow1 _ _)
      all_goals
        go_wp2_with fail
        go_ret
        refine ⟨.slice (some ⟨g, 0, none⟩) (L.length + 4) cap, rfl, ?_, (grown_drew (World.grownBy_alloc w _ _)).trans hgrow1⟩
        have e1 : ((y : Int) / 16).toNat = y / 16 := by omega
        have e2 : ((y : Int) % 16).toNat = y % 16 := by omega
        simp only [hexA_get, e1, e2] at hown1
        unfold Byts
        rw [HW.out, List.length_append, List.map_append]
        exact hown1
end Go.Proofs.YtacceiloggnekaaDoor
