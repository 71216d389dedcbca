/-
  The reference's pieces and put, for every text shorter than 100000 bytes.
-/
import Derived.Test.YtkchhgpebleioaaDoorDPure
import Derived.Test.YtkchhgpebleioaaDoorDStrs
import Derived.Test.YtkchhgpebleioaaDoorDLay
import Derived.Laws.Entries
namespace Go.Proofs.YtkchhgpebleioaaDoor
open Go.RowKit
theorem ba_append (a b : List UInt8) : ByteArray.mk a.toArray ++ ByteArray.mk b.toArray = ⟨(a ++ b).toArray⟩ := by
  apply ByteArray.ext
  rw [ByteArray.data_append]
  simp
/-- A length that a string may have. -/
def Small (n : Nat) : Prop := n ≤ 9223372036854775807
theorem str_add {P : Program} {w : World} (a b : List UInt8) (h : Small (a.length + b.length)) : (Op.stringOp .add ⟨a.toArray⟩ ⟨b.toArray⟩).run P w = .ok (.string ⟨(a ++ b).toArray⟩) w := by
  rw [← ba_append]
  exact run_string_add_sum _ _ _ h
theorem ba_get (l : List UInt8) (i : Nat) (h : i < (ByteArray.mk l.toArray).size) : (ByteArray.mk l.toArray)[i]'h = l[i]'h := rfl
theorem ba_mid (l : List UInt8) (f k : Nat) : (ByteArray.mk l.toArray).extract f k = ⟨((l.take k).drop f).toArray⟩ := by
  apply ByteArray.ext
  rw [ByteArray.data_extract, List.extract_toArray, List.extract_eq_take_drop]
  simp [List.drop_take]
/-- What the loop still makes. -/
def contP (p : List UInt8) (k m : Nat) (O : List (List UInt8)) : List (List UInt8) := if k ≤ p.length then O ++ cutS ((p.take k).drop m) (p.drop k) else O
theorem contP_skip {p : List UInt8} {k m : Nat} {O : List (List UInt8)} (hk : k < p.length) (hm : m ≤ k) (hc : (p[k]).toNat ≠ 47) : contP p (k + 1) m O = contP p k m O := by
  unfold contP
  rw [if_pos (by omega), if_pos (by omega), List.drop_eq_getElem_cons hk]
  show _ = O ++ cutS _ (p[k] :: p.drop (k + 1))
  conv => rhs; unfold cutS
  rw [if_neg hc, List.take_succ_eq_append_getElem hk, List.drop_append_of_le_length (by rw [List.length_take]; omega)]
theorem contP_hit {p : List UInt8} {k m : Nat} {O : List (List UInt8)} (hk : k < p.length) (hc : (p[k]).toNat = 47) : contP p (k + 1) (k + 1) (O ++ [(p.take k).drop m]) = contP p k m O := by
  unfold contP
  have e : (p.take (k + 1)).drop (k + 1) = [] := List.drop_eq_nil_of_le (by rw [List.length_take]; omega)
  rw [if_pos (by omega), if_pos (by omega), List.drop_eq_getElem_cons hk, e]
  show _ = O ++ cutS _ (p[k] :: p.drop (k + 1))
  conv => rhs; unfold cutS
  rw [if_pos hc, List.append_assoc]
  rfl
theorem contP_end {p : List UInt8} {m : Nat} {O : List (List UInt8)} : contP p (p.length + 1) (p.length + 1) (O ++ [(p.take p.length).drop m]) = contP p p.length m O := by
  unfold contP
  rw [if_neg (by omega), if_pos (Nat.le_refl _), List.drop_length]
  rfl
section
attribute [local go_sem] ba_get
set_option maxRecDepth 100000 in
set_option maxHeartbeats 8000000 in
theorem refPieces_any (p : List UInt8) (hp : 0 < p.length) (hl : p.length < 100000) (w : World) :
    Calls Tryd.prog 48 #[.string ⟨p.toArray⟩] w fun e w' => ∃ v, e = .returned v ∧ w'.ownsRow w.heap.size 9 1 v (piecesL p).length ((piecesL p).map strW) ∧ Below w.heap.size w w' := by
  obtain ⟨i0, hi, hz0, hz1, hz2⟩ := info_parts infoS4
  obtain ⟨R, hR⟩ : ∃ R, piecesL p = R := ⟨_, rfl⟩
  have H0 : Hid (contP p 1 1 [] = R) := Lib.hid (by
    unfold contP
    rw [if_pos (by omega), List.drop_eq_nil_of_le (by rw [List.length_take]; omega), ← hR]
    rfl)
  rw [hR]
  clear hR
  go_enter Tryd.func48, Tryd.ntmps48
  go_wp2_with fail
  go_loopw [3, 4, 5] (fun o f i wr => ∃ (k m : Nat) (O : List (List UInt8)), k ≤ p.length + 1 ∧ m ≤ k ∧ i = .int .i64 k ∧ f = .int .i64 m ∧ O.length ≤ k ∧ wr.ownsRow w.heap.size 9 1 o O.length (O.map strW) ∧ Hid (contP p k m O = R) ∧ Below w.heap.size w wr) (fun _ _ i _ => p.length + 1 - (intOf i).toNat)
  case atStart => exact ⟨1, 1, [], by omega, Nat.le_refl _, rfl, rfl, Nat.zero_le _, World.ownsRow_nil _ _ _ _, H0, Below.refl _ _⟩
  case round =>
  obtain ⟨k, m, O, hk, hm, rfl, rfl, hO, hrow, hst, hB⟩ := hrel
  obtain ⟨ov, oc, rfl⟩ := own_slice hrow
  by_cases hle : k ≤ p.length
  · have d2 : decide ((k : Int) ≤ (p.length : Int)) = true := decide_eq_true (by omega)
    obtain ⟨X, hX⟩ : ∃ X, (p.take k).drop m = X := ⟨_, rfl⟩
    have hmid : (ByteArray.mk p.toArray).extract m k = ⟨X.toArray⟩ := by rw [ba_mid, hX]
    have hone : w.heap.size ≤ (wr.alloc (.cells #[.string ⟨X.toArray⟩] 9)).heap.size := by have := hB.size; simp; omega
    have hmi : (m : Int) ≤ (k : Int) := by omega
    have hki : (k : Int) ≤ (p.length : Int) := by omega
    by_cases hlt : k < p.length
    · have d3 : ((k : Int) == (p.length : Int)) = false := by rw [beq_eq_false_iff_ne]; omega
      have hb2 : (k : Int) < (p.length : Int) := by omega
      by_cases hc : (p[k]).toNat = 47
      · have d4 : (((p[k]).toNat : Int) == 47) = true := by rw [hc]; rfl
        have hnext : Hid (contP p (k + 1) (k + 1) (O ++ [X]) = R) := Lib.hid (by rw [← hX, contP_hit hlt hc]; exact hst.out)
        clear hst hX hc
        go_wp2_with (at_builtin; refine wpList_append_own _ rfl _ _ 26 rfl w.heap.size 9 i0 (.string ⟨#[]⟩) 1 16 Tryd.underlying26 hi hz0 hz1 hz2 rfl (by decide) _ _ _ rfl (hrow.alloc _) ⟨wr.heap.size, 0, none⟩ 1 1 [strW X] rfl rfl (cell_one_new _ _ _) (by simp [Value.oneCell', strW]) (by unfold maxLen; omega) (by omega) hone ?_; intro v' w2 hown' hgrow _)
        go_roundw
        case rel =>
          refine ⟨k + 1, k + 1, O ++ [X], by omega, Nat.le_refl _, by go_num, by go_num, by simp; omega, ?_, hnext, below_grownR (hB.alloc hB.size _) hone hgrow (fun r hr => (hrow.lt r hr).1)⟩
          rw [List.map_append, List.length_append]
          exact hown'
        case measure => simp [intOf]; omega
      · have d4 : (((p[k]).toNat : Int) == 47) = false := by rw [beq_eq_false_iff_ne]; omega
        have hnext : Hid (contP p (k + 1) m O = R) := Lib.hid (by rw [contP_skip hlt hm hc]; exact hst.out)
        clear hst hX hc
        go_wp2_with fail
        go_roundw
        case rel => exact ⟨k + 1, m, O, by omega, by omega, by go_num, rfl, by omega, hrow, hnext, hB⟩
        case measure => simp [intOf]; omega
    · have hke : k = p.length := by omega
      have d3 : ((k : Int) == (p.length : Int)) = true := by rw [hke]; exact beq_self_eq_true _
      have hnext : Hid (contP p (k + 1) (k + 1) (O ++ [X]) = R) := Lib.hid (by
        rw [← hst.out, ← hX, hke]
        exact contP_end)
      clear hst hX hke
      go_wp2_with (at_builtin; refine wpList_append_own _ rfl _ _ 26 rfl w.heap.size 9 i0 (.string ⟨#[]⟩) 1 16 Tryd.underlying26 hi hz0 hz1 hz2 rfl (by decide) _ _ _ rfl (hrow.alloc _) ⟨wr.heap.size, 0, none⟩ 1 1 [strW X] rfl rfl (cell_one_new _ _ _) (by simp [Value.oneCell', strW]) (by unfold maxLen; omega) (by omega) hone ?_; intro v' w2 hown' hgrow _)
      go_roundw
      case rel =>
        refine ⟨k + 1, k + 1, O ++ [X], by omega, Nat.le_refl _, by go_num, by go_num, by simp; omega, ?_, hnext, below_grownR (hB.alloc hB.size _) hone hgrow (fun r hr => (hrow.lt r hr).1)⟩
        rw [List.map_append, List.length_append]
        exact hown'
      case measure => simp [intOf]; omega
  · have d2 : decide ((k : Int) ≤ (p.length : Int)) = false := decide_eq_false (by omega)
    have hres : Hid (O = R) := Lib.hid (by
      have := hst.out
      unfold contP at this
      rwa [if_neg hle] at this)
    go_wp2_with fail
    go_ret
    rw [← hres.out]
    exact ⟨_, rfl, hrow, hB⟩
end
end Go.Proofs.YtkchhgpebleioaaDoor
