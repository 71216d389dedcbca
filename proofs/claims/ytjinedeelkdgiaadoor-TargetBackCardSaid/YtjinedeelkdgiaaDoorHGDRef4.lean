/-
  The reference's Clean, for every text shorter than 100000 bytes.
-/
import Derived.Test.YtjinedeelkdgiaaDoorHDRef
namespace Go.Proofs.YtjinedeelkdgiaaDoor
open Go.RowKit
theorem own_pop {w : World} {base : Nat} {v : Value} {K : List (List UInt8)} {n : Nat} (h : w.ownsRow base 9 1 v K.length (K.map strW)) (hn : K.length = n + 1) :
    ∃ g cap, v = .slice (some ⟨g, 0, none⟩) K.length cap ∧ n + 1 ≤ cap ∧ w.ownsRow base 9 1 (.slice (some ⟨g, 0, none⟩) n cap) K.dropLast.length (K.dropLast.map strW) := by
  have hK : K ≠ [] := by intro e; rw [e] at hn; simp at hn
  have hd : K.dropLast.length = n := by rw [List.length_dropLast]; omega
  rcases h.2 with ⟨_, h0⟩ | ⟨g, cap, cur, hv, hb, hg, hc, hm, hs, ht⟩
  · omega
  · subst hv
    refine ⟨g, cap, rfl, by omega, ?_⟩
    rw [hd]
    refine ownsRow_pop (last := [strW (K.getLast hK)]) (by rw [List.length_map, hd, Nat.mul_one]) ?_
    rw [← List.map_singleton, ← List.map_append, List.dropLast_concat_getLast hK, ← hn]
    exact h
theorem clnF_dots {r K : List (List UInt8)} {o : Bool} {x : List UInt8} (h : (x == [46, 46]) = true) : clnF (x :: r) K o = if K = [] then none else clnF r K.dropLast true := by
  rw [clnF, if_pos (by simpa using h)]
theorem clnF_drop {r K : List (List UInt8)} {o : Bool} {x : List UInt8} (h : (x == [46, 46]) = false) (h2 : ((x == []) || (x == [46])) = true) : clnF (x :: r) K o = clnF r K true := by
  rw [clnF, if_neg (by simpa using h), if_pos (by simpa using h2)]
theorem clnF_keep {r K : List (List UInt8)} {o : Bool} {x : List UInt8} (h : (x == [46, 46]) = false) (h2 : ((x == []) || (x == [46])) = false) : clnF (x :: r) K o = clnF r (K ++ [x]) false := by
  rw [clnF, if_neg (by simpa using h), if_neg (by simpa using h2)]
set_option maxRecDepth 100000 in
set_option maxHeartbeats 8000000 in
theorem refClean_any (p : List UInt8) (hl : p.length < 50000) (w : World) :
    Calls Tryd.prog 63 #[.string ⟨p.toArray⟩] w fun e w' => e = .returned (strR (cleanR p)) ∧ Below w.heap.size w w' := by
  obtain ⟨i0, hi, hz0, hz1, hz2⟩ := info_parts infoS4
  have hl2 : p.length < 100000 := by omega
  obtain ⟨q, hq⟩ : ∃ q, pathB p = q := ⟨_, rfl⟩
  have HQ := Lib.hid hq
  cases q
  · have HR : Hid (cleanR p = .inl 3) := Lib.hid (by unfold cleanR; rw [hq]; rfl)
    clear hq
    go_enter Tryd.func63, Tryd.ntmps63
    go_wp2_with fail
    refine (refPath_any p hl2 _).mono ?_
    rintro e w' ⟨rfl, rfl⟩
    rw [HQ.out]
    go_wp2_with fail
    go_ret2
    exact ⟨by rw [HR.out]; rfl, Below.refl _ _⟩
  · have hp0 : 0 < p.length := by
      cases p with
      | nil => simp [pathB] at hq
      | cons c r => simp
    have HP0 := Lib.hid hp0
    have hR : cleanR p = endC (clnF (piecesL p) [] false) := by unfold cleanR; rw [hq]; rfl
    have hlen := pieces_len p
    have hmem := fun (x : List UInt8) (h : x ∈ piecesL p) => pieces_mem h
    have hpc := fun W => refPieces_any p HP0.out hl2 W
    obtain ⟨R, hRR⟩ : ∃ R, piecesL p = R := ⟨_, rfl⟩
    rw [hRR] at hpc hR hlen hmem
    obtain ⟨Z, hZ⟩ : ∃ Z, clnF R [] false = Z := ⟨_, rfl⟩
    rw [hZ] at hR
    have H0 : Hid (clnF (R.drop 0) [] false = Z) := Lib.hid hZ
    have HPC := Lib.hid hpc
    have HMEM := Lib.hid hmem
    have HR := Lib.hid hR
    clear hq hRR hR hpc hp0 hZ hmem
    go_enter Tryd.func63, Tryd.ntmps63
    go_wp2_with fail
    refine (refPath_any p hl2 _).mono ?_
    rintro e w' ⟨rfl, rfl⟩
    rw [HQ.out]
    go_wp2_with fail
    refine (HPC.out _).mono ?_
    rintro e w1 ⟨v, rfl, hrow, hB1⟩
    obtain ⟨pp, cc, rfl, hC⟩ := strs_of_own hrow
    have HC := Lib.hid hC
    have HB1 := Lib.hid hB1
    have hz1' := hB1.size
    clear hrow hC hB1 HPC
    go_wp2_with fail
    go_loopw [5, 6, 7] (fun o op i wr => ∃ (k : Nat) (K : List (List UInt8)) (oo : Bool), k ≤ R.length ∧ i = .int .i64 k ∧ op = .bool oo ∧ K.length ≤ k ∧ wr.ownsRow w1.heap.size 9 1 o K.length (K.map strW) ∧ Hid (∀ x ∈ K, x ∈ R) ∧ Hid (clnF (R.drop k) K oo = Z) ∧ Below w1.heap.size w1 wr) (fun _ _ i _ => R.length - (intOf i).toNat)
    case atStart => exact ⟨0, [], false, Nat.zero_le _, rfl, rfl, Nat.le_refl _, World.ownsRow_nil _ _ _ _, Lib.hid (fun x hx => by cases hx), H0, Below.refl _ _⟩
    case round =>
    obtain ⟨k, K, oo, hk, rfl, rfl, hK, hrow, hin, hst, hB⟩ := hrel
    obtain ⟨ov, oc, rfl⟩ := own_slice hrow
    by_cases hlt : k < R.length
    · have d2 : decide ((k : Int) < (R.length : Int)) = true := decide_eq_true (by omega)
      have hb2 : (k : Int) < (R.length : Int) := by omega
      obtain ⟨b, off, rfl, hbl, hcell⟩ := str_cell HC.out hB hlt
      have hat := hst.out
      rw [List.drop_eq_getElem_cons hlt] at hat
      have hxm := List.getElem_mem hlt
      obtain ⟨x, hx⟩ : ∃ x, R[k] = x := ⟨_, rfl⟩
      rw [hx] at hat hcell hxm
      obtain ⟨a, ha⟩ : ∃ a, (x == [46]) = a := ⟨_, rfl⟩
      obtain ⟨bb, hbb⟩ : ∃ bb, (x == [46, 46]) = bb := ⟨_, rfl⟩
      obtain ⟨c, hc⟩ : ∃ c, (x == []) = c := ⟨_, rfl⟩
      have HAT := Lib.hid hat
      have HXM := Lib.hid hxm
      clear hx hat hxm hst
      cases bb with
      | true =>
        by_cases hK0 : K = []
        · subst hK0
          have hres : Hid (Z = none) := Lib.hid (by rw [← HAT.out, clnF_dots hbb, if_pos rfl])
          cases a <;> cases c <;>
          · go_wp2_with fail
            go_ret2
            exact ⟨by rw [HR.out, hres.out]; rfl, HB1.out.trans (hB.mono hz1')⟩
        · obtain ⟨n, hn⟩ : ∃ n, K.length = n + 1 := ⟨K.length - 1, by have : K.length ≠ 0 := fun e => hK0 (List.eq_nil_of_length_eq_zero e); omega⟩
          obtain ⟨g, cap, hv, hcap, hrow2⟩ := own_pop hrow hn
          injection hv with hv1 hv2 hv3
          subst hv1 hv3
          have hnext : Hid (clnF (R.drop (k + 1)) K.dropLast true = Z) := Lib.hid (by rw [← HAT.out, clnF_dots hbb, if_neg hK0])
          have hin2 : Hid (∀ x ∈ K.dropLast, x ∈ R) := Lib.hid (fun y hy => hin.out y (List.dropLast_subset K hy))
          have hdl : K.dropLast.length ≤ k + 1 := by rw [List.length_dropLast]; omega
          have q1 : IntKind.i64.wrap ((K.length : Int) - 1) = (n : Int) := by rw [IntKind.wrap_i64]; omega
          have q2 : (K.length : Int) - 1 = (n : Int) := by omega
          have q3 : ((K.length : Int) == 0) = false := by rw [beq_eq_false_iff_ne]; omega
          have q4 : (n : Int) ≤ (oc : Int) := by omega
          have q5 : n ≤ oc := by omega
          have q6 : (0 : Int) ≤ (n : Int) := by omega
          have HROW := Lib.hid hrow2
          have HDL : Hid (K.dropLast.length = n) := Lib.hid (by rw [List.length_dropLast]; omega)
          clear hrow hrow2 hn hK0
          cases a <;> cases c <;>
          · go_wp2_with fail
            go_roundw
            case rel => exact ⟨k + 1, K.dropLast, true, by omega, by go_num, rfl, hdl, HROW.out, hin2, hnext, hB⟩
            case measure => simp [intOf]; omega
      | false =>
        obtain ⟨e, he⟩ : ∃ e, (c || a) = e := ⟨_, rfl⟩
        cases e with
        | true =>
          have hnext : Hid (clnF (R.drop (k + 1)) K true = Z) := Lib.hid (by rw [← HAT.out, clnF_drop hbb (by rw [ha, hc, he])])
          have HE := Lib.hid he
          clear he
          cases a <;> cases c <;> first | (exact absurd HE.out (by decide)) |
          (go_wp2_with fail
           go_roundw
           case rel => exact ⟨k + 1, K, true, by omega, by go_num, rfl, by omega, hrow, hin, hnext, hB⟩
           case measure => simp [intOf]; omega)
        | false =>
          have hnext : Hid (clnF (R.drop (k + 1)) (K ++ [x]) false = Z) := Lib.hid (by rw [← HAT.out, clnF_keep hbb (by rw [ha, hc, he])])
          have hin2 : Hid (∀ y ∈ K ++ [x], y ∈ R) := Lib.hid (fun y hy => by
            rcases List.mem_append.1 hy with hy | hy
            · exact hin.out y hy
            · rw [List.mem_singleton.1 hy]; exact HXM.out)
          have hone : w1.heap.size ≤ (wr.alloc (.cells #[.string ⟨x.toArray⟩] 9)).heap.size := by have := hB.size; simp; omega
          cases a with
          | true => exact absurd he (by cases c <;> decide)
          | false =>
            cases c with
            | true => exact absurd he (by decide)
            | false =>
              clear he
              go_wp2_with (at_builtin; refine wpList_append_own _ rfl _ _ 76 rfl w1.heap.size 9 i0 (.string ⟨#[]⟩) 1 16 Tryd.underlying76 hi hz0 hz1 hz2 rfl (by decide) _ _ _ rfl (hrow.alloc _) ⟨wr.heap.size, 0, none⟩ 1 1 [strW x] rfl rfl (cell_one_new _ _ _) (by simp [Value.oneCell', strW]) (by unfold maxLen; omega) (by omega) hone ?_; intro v' w2 hown' hgrow _)
              go_roundw
              case rel =>
                refine ⟨k + 1, K ++ [x], false, by omega, by go_num, rfl, by simp; omega, ?_, hin2, hnext, below_grownR (hB.alloc hB.size _) hone hgrow (fun r hr => (hrow.lt r hr).1)⟩
                rw [List.map_append, List.length_append]
                exact hown'
              case measure => simp [intOf]; omega
    · have d2 : decide ((k : Int) < (R.length : Int)) = false := decide_eq_false (by omega)
      have hres : Hid (Z = some (putL K oo)) := Lib.hid (by rw [← hst.out, List.drop_eq_nil_of_le (by omega)]; rfl)
      have hput := refPut_any K oo (by omega) (fun x hx => by have := HMEM.out x (hin.out x hx); omega) _ wr (strs_of_own hrow)
      have HPUT := Lib.hid hput
      clear hput
      go_wp2_with fail
      refine HPUT.out.mono ?_
      rintro e w' ⟨rfl, rfl⟩
      go_wp2_with fail
      go_ret2
      exact ⟨by rw [HR.out, hres.out]; rfl, HB1.out.trans (hB.mono hz1')⟩
end Go.Proofs.YtjinedeelkdgiaaDoor
