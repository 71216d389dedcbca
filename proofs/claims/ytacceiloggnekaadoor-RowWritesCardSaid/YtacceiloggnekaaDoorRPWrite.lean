/-
  The program's Write, writeLine and Text, for words and rows as they lie in memory.
-/
import Derived.Test.YtacceiloggnekaaDoorRPNum
import Derived.Test.YtacceiloggnekaaDoorRText
import Derived.Lib.AppendStr
namespace Go.Proofs.YtacceiloggnekaaDoor
open Go.RowKit
attribute [local go_sem] ba_get
theorem byts_lit (w : World) (L : List UInt8) (hL : L.length < 1000) : Byts (w.alloc (.cells (L.map encU).toArray 5)) w.heap.size (.slice (some ⟨w.heap.size, 0, none⟩) L.length L.length) L := by
  have := World.ownsRow_lit (base := w.heap.size) (e := 5) (size := 1) w (L.map encU).toArray L.length (Nat.le_refl _) (by unfold maxLen; omega) (by simp)
  unfold Byts
  simpa using this
theorem encU_str (L l : List UInt8) : L.map encU ++ Lib.strCells ⟨l.toArray⟩ = (L ++ l).map encU := by
  rw [List.map_append]
  rfl
theorem esc_ext (l : List UInt8) (k : Nat) (h : k < l.length) : 34 :: escL (l.take k) ++ escB l[k] = 34 :: escL (l.take (k + 1)) := by
  rw [escL_take h]; rfl
theorem byts_ge {W : World} {base : Nat} {v : Value} {L : List UInt8} (h : Byts W base v L) (m : Nat) (hm : m ≤ base) : ∀ r, v.ownBlock = some r → m ≤ r := own_ge h m hm
set_option maxRecDepth 100000 in
set_option maxHeartbeats 2000000 in
theorem write_any (l : List UInt8) (hl : l.length < 1000000) (w : World) :
    Calls Tryd.prog 24 #[.string ⟨l.toArray⟩] w fun e w' => e = .returned (.string ⟨(writeL l).toArray⟩) ∧ Below w.heap.size w w' := by
  obtain ⟨i0, hi, hz0, hz1, hz2⟩ := info_parts infoB
  obtain ⟨v, hv⟩ : ∃ v, bareV l = v := ⟨_, rfl⟩
  have HV := Lib.hid hv
  clear hv
  cases v
  · have HR : Hid (writeL l = 34 :: escL l ++ [34]) := Lib.hid (by unfold writeL; rw [HV.out]; rfl)
    have hlit : Byts (w.alloc (.cells #[.int .u8 34] 5)) w.heap.size (.slice (some ⟨w.heap.size, 0, none⟩) 1 1) [34] := byts_lit w [34] (by simp)
    go_enter Tryd.func24, Tryd.ntmps24
    go_wp2_with fail
    refine (bare_eq l hl _).mono ?_
    rintro e w' ⟨rfl, rfl⟩
    rw [HV.out]
    go_wp2_with fail
    go_loopw [3, 12] (fun o i wr => ∃ (k : Nat) (O : List UInt8), k ≤ l.length ∧ i = .int .i64 k ∧ Byts wr w.heap.size o O ∧ Hid (O = 34 :: escL (l.take k)) ∧ Below w.heap.size w wr) (fun _ i _ => l.length - (intOf i).toNat)
    case atStart => exact ⟨0, [34], Nat.zero_le _, rfl, hlit, Lib.hid (by rw [List.take_zero]; rfl), by go_grown⟩
    case round =>
      obtain ⟨k, O, hk, rfl, ho, hO, hB⟩ := hrel
      have hOl : O.length ≤ 4 * k + 1 := by
        have := escL_len (l.take k)
        rw [List.length_take, Nat.min_eq_left hk] at this
        rw [hO.out, List.length_cons]
        omega
      have hsz := hB.size
      by_cases hlt : k < l.length
      · have h1 : decide ((k : Int) < (l.length : Int)) = true := decide_eq_true (by omega)
        have hb2 : (k : Int) < (l.length : Int) := by omega
        have hX : Hid (O ++ escB l[k] = 34 :: escL (l.take (k + 1))) := Lib.hid (by rw [hO.out]; exact esc_ext l k hlt)
        go_wp2_with fail
        refine (appendByte_any w.heap.size _ O l[k] (by omega) _ hsz ho).mono ?_
        rintro e w1 ⟨v1, rfl, ho1, hg⟩
        have hB1 := below_grownR hB hsz hg (byts_ge ho _ (Nat.le_refl _))
        clear hlit hg
        go_wp2_with fail
        go_roundw
        case rel => exact ⟨k + 1, O ++ escB l[k], by omega, by go_num, ho1, hX, hB1⟩
        case measure => simp [intOf]; omega
      · have h1 : decide ((k : Int) < (l.length : Int)) = false := decide_eq_false (by omega)
        obtain ⟨q, c, rfl⟩ := byts_slice ho
        have hfin : Hid (O ++ [34] = writeL l) := Lib.hid (by
          rw [HR.out, hO.out, List.take_of_length_le (by omega)])
        unfold Byts at ho
        clear hlit
        go_wp2_with (at_builtin; go_loud (refine wpList_append_own _ rfl _ _ 65 rfl w.heap.size 5 i0 (.int .u8 0) 1 1 Tryd.underlying65 hi hz0 hz1 hz2 rfl (by decide) _ _ _ rfl (ho.alloc _) ⟨_, 0, none⟩ 1 1 [.int .u8 34] rfl rfl (cell_news _ _ _) (by simp [Value.oneCell']) (by unfold maxLen; omega) (by omega) (by simp; omega) ?_; intro v' w3 hown' hgrow _; have hB3 := below_grownR (hB.alloc hsz _) (by simp; omega) hgrow (fun r hr => (ho.lt r hr).1); have hcv := owned_text (L := O ++ [34]) (by unfold Byts; rw [List.length_append, List.map_append]; exact hown')))
        go_ret
        exact ⟨by rw [← hfin.out]; rfl, hB3⟩
  · have HR : Hid (writeL l = l) := Lib.hid (by unfold writeL; rw [HV.out]; rfl)
    go_enter Tryd.func24, Tryd.ntmps24
    go_wp2_with fail
    refine (bare_eq l hl _).mono ?_
    rintro e w' ⟨rfl, rfl⟩
    rw [HV.out]
    go_wp2_with fail
    refine (clone_any l hl _).mono ?_
    rintro e w' ⟨rfl, hb⟩
    go_wp2_with fail
    go_ret
    exact ⟨by rw [HR.out]; rfl, hb⟩
end Go.Proofs.YtacceiloggnekaaDoor
