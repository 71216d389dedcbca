/-
  The law text's texts and light, and the kit's SameTexts.
-/
import Derived.Test.YtacceiloggnekaaDoorRAt
import Derived.Test.YtacceiloggnekaaDoorRNum
import Derived.Test.YtacceiloggnekaaDoorRRow
import Derived.Deep.RegionHeld3
import Derived.Deep.QuietTactic
import Derived.BigQuiet
namespace Go.Proofs.YtacceiloggnekaaDoor
open Go.RowKit
/-- The slice holds the texts. -/
def StrsAt (w : World) (v : Value) (l : List (List UInt8)) : Prop := ∃ p cap, v = .slice p l.length cap ∧ CellsIn w p (l.length * 1) (strC fun j => l.getD j [])
theorem StrsAt.below {k : Nat} {w w' : World} {v : Value} {l : List (List UInt8)} (h : StrsAt w v l) (hb : Below k w w') (hk : w.heap.size ≤ k) : StrsAt w' v l := by
  obtain ⟨p, cap, h1, h2⟩ := h
  exact ⟨p, cap, h1, h2.below hb hk⟩
def strW (l : List UInt8) : Value := .string ⟨l.toArray⟩
theorem strs_of_own {w : World} {base : Nat} {e : TypeId} {v : Value} {l : List (List UInt8)} (h : w.ownsRow base e 1 v l.length (l.map strW)) : StrsAt w v l := by
  obtain ⟨p, cap, h1, h2⟩ := cells_of_own h (by simp)
  refine ⟨p, cap, h1, fun j hj => ?_⟩
  obtain ⟨b, off, e1, e2, e3⟩ := h2 j hj
  refine ⟨b, off, e1, e2, ?_⟩
  rw [e3]
  have hj' : j < l.length := by omega
  show some ((l.map strW).getD j (.int .i64 0)) = some (.string ⟨(l.getD j []).toArray⟩)
  rw [List.getD_eq_getElem?_getD, List.getD_eq_getElem?_getD, List.getElem?_map, List.getElem?_eq_getElem hj']
  rfl
set_option maxRecDepth 100000 in
set_option maxHeartbeats 4000000 in
theorem sameTexts_any (l : List (List UInt8)) (hn : l.length < 1000000) (v1 v2 : Value) (w : World) (h1 : StrsAt w v1 l) (h2 : StrsAt w v2 l) :
    Calls Tryd.prog 30 #[v1, v2] w fun e w' => e = .returned (.bool true) ∧ Below w.heap.size w w' := by
  obtain ⟨p1, c1, rfl, k1⟩ := h1
  obtain ⟨p2, c2, rfl, k2⟩ := h2
  have H1 : Hid (CellsIn w p1 (l.length * 1) (strC fun j => l.getD j [])) := k1
  have H2 : Hid (CellsIn w p2 (l.length * 1) (strC fun j => l.getD j [])) := k2
  clear k1 k2
  go_enter Tryd.func30, Tryd.ntmps30
  go_wp2_with fail
  go_loopw [5] (fun i wr => ∃ k : Nat, k ≤ l.length ∧ i = .int .i64 k ∧ Below w.heap.size w wr) (fun i _ => l.length - (intOf i).toNat)
  case atStart => exact ⟨0, Nat.zero_le _, rfl, Below.refl _ _⟩
  case round =>
  obtain ⟨k, hk, rfl, hB⟩ := hrel
  by_cases hlt : k < l.length
  · have d1 : decide ((k : Int) < (l.length : Int)) = true := decide_eq_true (by omega)
    have hb2 : (k : Int) < (l.length : Int) := by omega
    obtain ⟨b1, o1, rfl, l1, x0⟩ := H1.out k (by omega)
    obtain ⟨b2, o2, rfl, l2, y0⟩ := H2.out k (by omega)
    have x0 := (hB.cell (p := ⟨b1, o1 + k, none⟩) l1).trans x0
    have y0 := (hB.cell (p := ⟨b2, o2 + k, none⟩) l2).trans y0
    unfold strC at x0 y0
    dsimp only at x0 y0
    obtain ⟨t, ht⟩ : ∃ t, l.getD k [] = t := ⟨_, rfl⟩
    rw [ht] at x0 y0
    clear ht
    go_wp2_with fail
    go_region
    all_goals
      go_wp2_with fail
      go_roundw
      case rel => exact ⟨k + 1, by omega, by go_num, hB.drew⟩
      case measure => simp [intOf]; omega
  · have d1 : decide ((k : Int) < (l.length : Int)) = false := decide_eq_false (by omega)
    go_wp2_with fail
    go_ret
    exact ⟨rfl, hB⟩
/-- What texts answers. -/
def rowMark : List UInt8 := [97, 32, 114, 111, 119, 10]
def wordsT (ws : List Wd) : List (List UInt8) := ws.map Wd.text
def textsL : List Rw → List (List UInt8)
  | [] => []
  | r :: rs => rowMark :: (wordsT r.words ++ textsL rs)
theorem textsL_snoc : ∀ (P : List Rw) (r : Rw), textsL (P ++ [r]) = textsL P ++ [rowMark] ++ wordsT r.words
  | [], r => by simp [textsL]
  | p :: P, r => by simp [textsL, textsL_snoc P r]
theorem textsL_take {rs : List Rw} {k : Nat} (h : k < rs.length) : textsL (rs.take (k + 1)) = textsL (rs.take k) ++ [rowMark] ++ wordsT rs[k].words := by
  rw [List.take_succ_eq_append_getElem h, textsL_snoc]
theorem textsL_len : ∀ (rs : List Rw) (M : Nat), (∀ r ∈ rs, r.words.length < M) → (textsL rs).length ≤ rs.length * M
  | [], _, _ => Nat.zero_le _
  | r :: rs, M, h => by
    have h1 := h r (by simp)
    have h2 := textsL_len rs M (fun x hx => h x (by simp [hx]))
    simp only [textsL, wordsT, List.length_cons, List.length_append, List.length_map]
    rw [Nat.add_mul]
    omega
theorem infoS4 : (Tryd.prog.info? 9).map (fun i => (i.zero, i.size, i.bytes)) = some (some (.string ⟨#[]⟩), 1, 16) := by kernel_rfl
set_option maxRecDepth 100000 in
set_option maxHeartbeats 8000000 in
theorem texts_any (rs : List Rw) (hn : rs.length < 100000) (hw : ∀ r ∈ rs, r.words.length < 100000) (v : Value) (w : World) (h : RowsAt w v rs) :
    Calls Tryd.prog 31 #[v] w fun e w' => ∃ v', e = .returned v' ∧ w'.ownsRow w.heap.size 9 1 v' (textsL rs).length ((textsL rs).map strW) ∧ Below w.heap.size w w' := by
  obtain ⟨i0, hi, hz0, hz1, hz2⟩ := info_parts infoS4
  obtain ⟨p, c, cs, rfl, k1, j1⟩ := h
  have H1 : Hid (RowCs w cs rs) := k1
  have J1 : Hid (CellsIn w p (rs.length * 2) (fun j => cs.getD j (.int .i64 0))) := j1
  have HW := Lib.hid hw
  clear k1 j1 hw
  go_enter Tryd.func31, Tryd.ntmps31
  go_wp2_with fail
  go_loopw [3, 4] (fun o i wr => ∃ k : Nat, k ≤ rs.length ∧ i = .int .i64 k ∧ wr.ownsRow w.heap.size 9 1 o (textsL (rs.take k)).length ((textsL (rs.take k)).map strW) ∧ Below w.heap.size w wr) (fun _ i _ => rs.length - (intOf i).toNat)
  case atStart => exact ⟨0, Nat.zero_le _, rfl, World.ownsRow_nil _ _ _ _, Below.refl _ _⟩
  case round =>
  obtain ⟨k, hk, rfl, hrow, hB⟩ := hrel
  by_cases hlt : k < rs.length
  · have d1 : decide ((k : Int) < (rs.length : Int)) = true := decide_eq_true (by omega)
    have hb2 : (k : Int) < (rs.length : Int) := by omega
    have hnext := textsL_take hlt
    have hwl := HW.out _ (List.getElem_mem hlt)
    have htl := textsL_len (rs.take k) 100000 (fun r hr => HW.out r (List.mem_of_mem_take hr))
    rw [List.length_take, Nat.min_eq_left hk] at htl
    obtain ⟨T, hT⟩ : ∃ T, textsL (rs.take k) = T := ⟨_, rfl⟩
    rw [hT] at hnext hrow htl
    obtain ⟨wb, wo, wp, wc, hp, hwb, -, hcell, hwc⟩ := row_cells H1.out J1.out (Below.refl _ w) hlt
    obtain ⟨ws, hws⟩ : ∃ ws, rs[k].words = ws := ⟨_, rfl⟩
    rw [hws] at hcell hwc hwl hnext
    have HCELL : Hid (∀ wx, Below w.heap.size w wx → wx.cell? ⟨wb, wo + k * 2 + 1, none⟩ = some (.slice wp ws.length wc)) := Lib.hid (fun wx hx => (hx.cell (p := ⟨wb, wo + k * 2 + 1, none⟩) hwb).trans hcell)
    have HWC : Hid (CellsIn w wp (ws.length * 3) (fun j => (wdsC ws).getD j (.int .i64 0))) := hwc
    have HNX := Lib.hid hnext
    subst hp
    clear hT hws hcell hwc hnext
    have z1 : w.heap.size ≤ (wr.alloc (.cells #[.string ⟨#[97, 32, 114, 111, 119, 10]⟩] 9)).heap.size := by have := hB.size; simp; omega
    go_wp2_with (at_builtin; refine wpList_append_own _ rfl _ _ 35 rfl w.heap.size 9 i0 (.string ⟨#[]⟩) 1 16 Tryd.underlying35 hi hz0 hz1 hz2 rfl (by decide) _ _ _ rfl (hrow.alloc _) ⟨wr.heap.size, 0, none⟩ 1 1 [strW rowMark] rfl rfl (cell_one_new _ _ _) (by simp [Value.oneCell', strW]) (by unfold maxLen; omega) (by omega) z1 ?_; intro v' w1 hown' hgrow _)
    have hB1 := below_grownR (hB.alloc hB.size (.cells #[.string ⟨#[97, 32, 114, 111, 119, 10]⟩] 9)) z1 hgrow (fun r hr => (hrow.lt r hr).1)
    go_loopw [3, 5] (fun o i wx => ∃ m : Nat, m ≤ ws.length ∧ i = .int .i64 m ∧ wx.ownsRow w.heap.size 9 1 o (T.length + 1 + m) ((T ++ [rowMark] ++ wordsT (ws.take m)).map strW) ∧ Below w.heap.size w wx) (fun _ i _ => ws.length - (intOf i).toNat)
    case atStart => exact ⟨0, Nat.zero_le _, rfl, by rw [List.take_zero]; simpa [wordsT] using hown', hB1⟩
    case round =>
    obtain ⟨m, hm, rfl, hrow2, hB2⟩ := hrel
    have hc2 := HCELL.out _ hB2
    by_cases hlt2 : m < ws.length
    · have d3 : decide ((m : Int) < (ws.length : Int)) = true := decide_eq_true (by omega)
      have hb3 : (m : Int) < (ws.length : Int) := by omega
      obtain ⟨xb, xo, rfl, hxb, q0, q1, q2⟩ := word_cells HWC.out hB2 hlt2
      have hmap : wordsT (ws.take (m + 1)) = wordsT (ws.take m) ++ [ws[m].text] := by unfold wordsT; rw [List.take_succ_eq_append_getElem hlt2, List.map_append]; rfl
      obtain ⟨x, hx⟩ : ∃ x, ws[m].text = x := ⟨_, rfl⟩
      rw [hx] at q1 hmap
      have HMAP := Lib.hid hmap
      clear hx q0 q2 hmap
      have z2 : w.heap.size ≤ (wr.alloc (.cells #[.string ⟨x.toArray⟩] 9)).heap.size := by have := hB2.size; simp; omega
      go_wp2_with (at_builtin; refine wpList_append_own _ rfl _ _ 35 rfl w.heap.size 9 i0 (.string ⟨#[]⟩) 1 16 Tryd.underlying35 hi hz0 hz1 hz2 rfl (by decide) _ _ _ rfl (hrow2.alloc _) ⟨wr.heap.size, 0, none⟩ 1 1 [strW x] rfl rfl (cell_one_new _ _ _) (by simp [Value.oneCell', strW]) (by unfold maxLen; omega) (by omega) z2 ?_; intro v' w1 hown2 hgrow2 _)
      go_roundw
      case rel =>
        refine ⟨m + 1, by omega, by go_num, ?_, below_grownR (hB2.alloc hB2.size _) z2 hgrow2 (fun r hr => (hrow2.lt r hr).1)⟩
        rw [HMAP.out, ← List.append_assoc, List.map_append, ← Nat.add_assoc]
        exact hown2
      case measure => simp [intOf]; omega
    · obtain rfl : m = ws.length := by omega
      have d3 : decide ((ws.length : Int) < (ws.length : Int)) = false := decide_eq_false (by omega)
      rw [List.take_length] at hrow2
      have hl2 : (textsL (rs.take (k + 1))).length = T.length + 1 + ws.length := by rw [HNX.out]; simp [wordsT]; omega
      have HL2 := Lib.hid hl2
      clear hl2
      go_wp2_with fail
      go_roundw
      case rel => exact ⟨k + 1, by omega, by go_num, by rw [HL2.out, HNX.out]; exact hrow2, hB2⟩
      case measure => simp [intOf]; omega
  · obtain rfl : k = rs.length := by omega
    have d1 : decide ((rs.length : Int) < (rs.length : Int)) = false := decide_eq_false (by omega)
    rw [List.take_length] at hrow
    go_wp2_with fail
    go_ret
    exact ⟨_, rfl, hrow, hB⟩
/-- What light answers. -/
def lightR (r : Rw) : Bool := decide (r.words.length ≤ 60) && r.words.all fun x => decide (x.text.length ≤ 1100)
def lightB (rs : List Rw) : Bool := (rs.take 300).all lightR && decide (rs.length ≤ 300)
theorem take_all {α : Type} {l : List α} {k : Nat} (h : k < l.length) (f : α → Bool) : (l.take (k + 1)).all f = ((l.take k).all f && f l[k]) := by
  rw [List.take_succ_eq_append_getElem h, List.all_append]; simp
theorem lightB_no {rs : List Rw} {k : Nat} (h : k < rs.length) (h3 : k < 300) (hf : lightR rs[k] = false) : lightB rs = false := by
  unfold lightB
  rw [Bool.and_eq_false_iff]
  left
  rw [List.all_eq_false]
  exact ⟨rs[k], List.mem_take_iff_getElem.2 ⟨k, by omega, rfl⟩, by simp [hf]⟩
set_option maxRecDepth 100000 in
set_option maxHeartbeats 8000000 in
theorem light_any (rs : List Rw) (v : Value) (w : World) (h : RowsAt w v rs) :
    Calls Tryd.prog 14 #[v] w fun e w' => e = .returned (.bool (lightB rs)) ∧ w = w' := by
  obtain ⟨p, c, cs, rfl, k1, j1⟩ := h
  have H1 : Hid (RowCs w cs rs) := k1
  have J1 : Hid (CellsIn w p (rs.length * 2) (fun j => cs.getD j (.int .i64 0))) := j1
  clear k1 j1
  obtain ⟨R, hR⟩ : ∃ R, lightB rs = R := ⟨_, rfl⟩
  rw [hR]
  have HR := Lib.hid hR
  clear hR
  go_enter Tryd.func14, Tryd.ntmps14
  go_wp2_with fail
  go_loopw [3] (fun i wr => ∃ k : Nat, k ≤ rs.length ∧ k ≤ 300 ∧ i = .int .i64 k ∧ Hid ((rs.take k).all lightR = true) ∧ w = wr) (fun i _ => rs.length - (intOf i).toNat)
  case atStart => exact ⟨0, Nat.zero_le _, by omega, rfl, Lib.hid rfl, rfl⟩
  case round =>
  obtain ⟨k, hk, hk3, rfl, hal, rfl⟩ := hrel
  by_cases hlt : k < rs.length
  · have d1 : decide ((k : Int) < (rs.length : Int)) = true := decide_eq_true (by omega)
    have d1p : k < rs.length := hlt
    have hb2 : (k : Int) < (rs.length : Int) := by omega
    by_cases h3 : k < 300
    · have d2 : decide ((k : Int) < 300) = true := decide_eq_true (by omega)
      have hall := take_all hlt lightR
      rw [hal.out, Bool.true_and] at hall
      have hno := lightB_no hlt h3
      obtain ⟨wb, wo, wp, wc, hp, hwb, -, hcell, hwc⟩ := row_cells H1.out J1.out (Below.refl _ w) hlt
      obtain ⟨r, hr⟩ : ∃ r, rs[k] = r := ⟨_, rfl⟩
      rw [hr] at hcell hwc hall hno
      have hlr : lightR r = (decide (r.words.length ≤ 60) && r.words.all fun x => decide (x.text.length ≤ 1100)) := rfl
      obtain ⟨ws, hws⟩ : ∃ ws, r.words = ws := ⟨_, rfl⟩
      rw [hws] at hcell hwc hlr
      have HWC : Hid (CellsIn w wp (ws.length * 3) (fun j => (wdsC ws).getD j (.int .i64 0))) := hwc
      have HALL := Lib.hid hall
      have HLR := Lib.hid hlr
      have HNO := Lib.hid hno
      subst hp
      clear hwc hall hlr hno hr hws
      by_cases h60 : 60 < ws.length
      · have d3 : decide ((60 : Int) < (ws.length : Int)) = true := decide_eq_true (by omega)
        have d3n : decide (60 < ws.length) = true := decide_eq_true h60
        have hres : Hid (R = false) := Lib.hid (by rw [← HR.out]; exact HNO.out (by rw [HLR.out, decide_eq_false (by omega)]; rfl))
        go_wp2_with fail
        go_ret
        exact ⟨by rw [hres.out]; rfl, rfl⟩
      · have d3 : decide ((60 : Int) < (ws.length : Int)) = false := decide_eq_false (by omega)
        have d3n : decide (60 < ws.length) = false := decide_eq_false h60
        go_wp2_with fail
        go_loopw [4] (fun i wx => ∃ m : Nat, m ≤ ws.length ∧ i = .int .i64 m ∧ Hid ((ws.take m).all (fun x => decide (x.text.length ≤ 1100)) = true) ∧ w = wx) (fun i _ => ws.length - (intOf i).toNat)
        case atStart => exact ⟨0, Nat.zero_le _, rfl, Lib.hid rfl, rfl⟩
        case round =>
        obtain ⟨m, hm, rfl, hal2, rfl⟩ := hrel
        by_cases hlt2 : m < ws.length
        · have d4 : decide ((m : Int) < (ws.length : Int)) = true := decide_eq_true (by omega)
          have hb3 : (m : Int) < (ws.length : Int) := by omega
          have hall2 := take_all hlt2 (fun x : Wd => decide (x.text.length ≤ 1100))
          rw [hal2.out, Bool.true_and] at hall2
          obtain ⟨xb, xo, rfl, hxb, q0, q1, q2⟩ := word_cells HWC.out (Below.refl _ w) hlt2
          have hany : ¬ (ws[m].text.length ≤ 1100) → (ws.all fun x => decide (x.text.length ≤ 1100)) = false := fun h => by
            rw [List.all_eq_false]
            exact ⟨ws[m], List.getElem_mem hlt2, by simpa using h⟩
          obtain ⟨x, hx⟩ : ∃ x, ws[m].text = x := ⟨_, rfl⟩
          rw [hx] at q1 hall2 hany
          by_cases h11 : 1100 < x.length
          · have d5 : decide ((1100 : Int) < (x.length : Int)) = true := decide_eq_true (by omega)
            have d5n : decide (1100 < x.length) = true := decide_eq_true h11
            have hres : Hid (R = false) := Lib.hid (by rw [← HR.out]; exact HNO.out (by rw [HLR.out, hany (by omega), Bool.and_false]))
            clear hany hall2 hx q0 q2
            go_wp2_with fail
            go_ret
            exact ⟨by rw [hres.out]; rfl, rfl⟩
          · have d5 : decide ((1100 : Int) < (x.length : Int)) = false := decide_eq_false (by omega)
            have d5n : decide (1100 < x.length) = false := decide_eq_false h11
            have hnext : Hid ((ws.take (m + 1)).all (fun x => decide (x.text.length ≤ 1100)) = true) := Lib.hid (by rw [hall2]; exact decide_eq_true (by omega))
            clear hany hall2 hx q0 q2
            go_wp2_with fail
            go_roundw
            case rel => exact ⟨m + 1, by omega, by go_num, hnext, trivial⟩
            case measure => simp [intOf]; omega
        · obtain rfl : m = ws.length := by omega
          have d4 : decide ((ws.length : Int) < (ws.length : Int)) = false := decide_eq_false (by omega)
          have hnext : Hid ((rs.take (k + 1)).all lightR = true) := Lib.hid (by rw [HALL.out, HLR.out, decide_eq_true (by omega), Bool.true_and, ← hal2.out, List.take_length])
          go_wp2_with fail
          go_roundw
          case rel => exact ⟨k + 1, by omega, by omega, by go_num, hnext, trivial⟩
          case measure => simp [intOf]; omega
    · have d2 : decide ((k : Int) < 300) = false := decide_eq_false (by omega)
      obtain rfl : k = 300 := by omega
      have d3 : decide ((rs.length : Int) ≤ 300) = false := decide_eq_false (by omega)
      have hres : Hid (R = false) := Lib.hid (by rw [← HR.out]; unfold lightB; rw [decide_eq_false (by omega : ¬ rs.length ≤ 300), Bool.and_false])
      go_wp2_with fail
      go_ret
      exact ⟨by rw [hres.out]; rfl, rfl⟩
  · have d1 : decide ((k : Int) < (rs.length : Int)) = false := decide_eq_false (by omega)
    obtain rfl : k = rs.length := by omega
    have d3 : decide ((rs.length : Int) ≤ 300) = true := decide_eq_true (by omega)
    have hres : Hid (R = true) := Lib.hid (by rw [← HR.out]; unfold lightB; rw [List.take_of_length_le hk3, decide_eq_true hk3, Bool.and_true, ← hal.out, List.take_length])
    go_wp2_with fail
    go_ret
    exact ⟨by rw [hres.out]; rfl, rfl⟩
end Go.Proofs.YtacceiloggnekaaDoor
