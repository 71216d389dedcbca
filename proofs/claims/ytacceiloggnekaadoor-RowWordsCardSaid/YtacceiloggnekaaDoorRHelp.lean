/-
  The law text's reads, faulty, number and awake.
-/
import Derived.Test.YtacceiloggnekaaDoorRProg
import Derived.Test.YtacceiloggnekaaDoorRTexts
import Derived.BigFrame
import Derived.Lib.ItoaMem
namespace Go.Proofs.YtacceiloggnekaaDoor
open Go.RowKit
/-- append to a row of one's own behind a guard that says yes. -/
theorem wpList_append_ownG {P : Program} {w : World} {ops : Array Oper} {rest : List Oper} {o : Oper} {a : Act} {Q : Exit → Act → World → Prop} (hgd : Region.wanted o (yielded ops a.tmps) = true) (s x : Operand) (t : TypeId)
    (ho : o.op = .call { callee := .builtin .append, args := #[s, x], argTypes := #[t, t] })
    (base : Nat) (e : TypeId) (i : TypeInfo) (z : Value) (size bytes : Nat) (ht : P.underlying t = some (.slice e)) (hi : P.info? e = some i) (hz : i.zero = some z)
    (hsize : i.size = size) (hby : i.bytes = bytes) (hzs : z.cells.size = size) (hsz : 0 < size)
    (v : Value) (n : Nat) (xs : List Value) (hs : a.eval s = v) (hown : w.ownsRow base e size v n xs)
    (ad : Addr) (m c : Nat) (news : List Value) (hx : a.eval x = .slice (some ad) m c) (hl : news.length = m * size) (hnews : ∀ j u, news[j]? = some u → w.cell? (ad.add j) = some u) (h1 : ∀ u ∈ news, u.oneCell' = true)
    (h63 : n + m ≤ maxLen) (hbytes : (n + m) * bytes ≤ 140737488355328) (hbase : base ≤ w.heap.size)
    (h : ∀ v' w', w'.ownsRow base e size v' (n + m) (xs ++ news) → w.grownBy w' v.ownBlock → wpList P ops Q rest (a.put o.dst v') w') : wpList P ops Q (o :: rest) a w :=
  BigFrame.wpList_want hgd fun _ hK => wp_append_own w s x t ho base e i z size bytes ht hi hz hsize hby hzs hsz v n xs hs hown ad m c news hx hl hnews h1 h63 hbytes hbase fun v' w' h2 h3 _ => hK _ _ (h v' w' h2 h3)
set_option maxRecDepth 100000 in
set_option maxHeartbeats 4000000 in
theorem reads_any (l : List UInt8) (hl : l.length < 900000) (rs : List Rw) (hr : rowsL l = .inr rs) (hn : rs.length < 100000) (hw : ∀ r ∈ rs, r.words.length < 100000) (want : List (List UInt8)) (hwant : want.length < 100000) (he : textsL rs = rowMark :: want)
    (q : Addr) (d : Nat) (w : World) (hT : VT w) (hq : CellsIn w (some q) (want.length * 1) (strC fun j => want.getD j [])) :
    Calls Tryd.prog 28 #[.string ⟨l.toArray⟩, .slice (some q) want.length d] w fun e w' => e = .returned (.bool true) ∧ Below w.heap.size w w' := by
  obtain ⟨i0, hi, hz0, hz1, hz2⟩ := info_parts infoS4
  have h := fun W (hW : VT W) => rows_any l hl W hW
  have HVT := Lib.hid hT
  rw [hr] at h
  have H := Lib.hid h
  have HW := Lib.hid hw
  have HE := Lib.hid he
  have HQ : Hid (CellsIn w (some q) (want.length * 1) (strC fun j => want.getD j [])) := hq
  clear h hw he hq hr
  go_enter Tryd.func28, Tryd.ntmps28
  go_wp2_with fail
  refine (H.out _ (VT.below (Hid.out (by with_reducible assumption)) (by repeat' (first | (with_reducible exact Below.refl _ _) | (with_reducible assumption) | (with_reducible exact Hid.out (by with_reducible assumption)) | (with_reducible refine below_one _ ?_) | (with_reducible refine Below.drew ?_))))).mono ?_
  rintro e w1 ⟨⟨v, rfl, hv⟩, hb⟩
  obtain ⟨p, c, cs, rfl, -, -⟩ := id hv
  have HV := Lib.hid hv
  have HB := Lib.hid hb
  clear hv hb
  go_wp2_with fail
  have hB1 : Below w.heap.size w (w1.alloc (.cells #[.int .i64 0, .int .i64 0] 26)) := HB.out.alloc HB.out.size _
  refine (texts_any rs hn HW.out _ _ (HV.out.below (k := w1.heap.size) ((Below.refl _ _).alloc (Nat.le_refl _) _) (Nat.le_refl _))).mono ?_
  rintro e w2 ⟨v2, rfl, hown, hb2⟩
  rw [HE.out] at hown
  have hS2 := strs_of_own hown
  obtain ⟨p2, c2, rfl, -⟩ := id hS2
  have hB2 := hB1.trans (hb2.mono hB1.size)
  have HS2 := Lib.hid hS2
  have hlit := World.ownsRow_lit (e := 9) (size := 1) w2 #[.string ⟨#[97, 32, 114, 111, 119, 10]⟩] 1 (Nat.le_refl _) (by decide) rfl
  have hnews : ∀ (j : Nat) u, (want.map strW)[j]? = some u → (w2.alloc (.cells #[.string ⟨#[97, 32, 114, 111, 119, 10]⟩] 9)).cell? (q.add j) = some u := fun j u hu => by
    have hj : j < want.length := by simpa using (List.getElem?_eq_some_iff.1 hu).1
    obtain ⟨b, off, e1, hbl, hc⟩ := HQ.out j (by omega)
    injection e1 with e1
    subst e1
    rw [Lib.add_plain]
    have h1 := ((hB2.alloc hB2.size (.cells #[.string ⟨#[97, 32, 114, 111, 119, 10]⟩] 9)).cell (p := ⟨b, off + j, none⟩) hbl).trans hc
    rw [h1, ← hu, List.getElem?_map, List.getElem?_eq_getElem hj]
    unfold strC
    dsimp only
    rw [List.getD_eq_getElem?_getD, List.getElem?_eq_getElem hj]
    rfl
  have hone : ∀ u ∈ want.map strW, u.oneCell' = true := fun u hu => by
    obtain ⟨x, _, rfl⟩ := List.mem_map.1 hu
    rfl
  clear hown hb2 hS2
  go_wp2_with (at_builtin; refine wpList_append_ownG rfl _ _ 35 rfl w2.heap.size 9 i0 (.string ⟨#[]⟩) 1 16 Tryd.underlying35 hi hz0 hz1 hz2 rfl (by decide) _ _ _ rfl hlit q want.length d (want.map strW) rfl (by simp) hnews hone (by unfold maxLen; omega) (by omega) (by simp) ?_; intro v' w3 hown' hgrow)
  have hB3 : Below w2.heap.size w2 w3 := below_grownR ((Below.refl _ w2).alloc (Nat.le_refl _) _) (by simp) hgrow (fun r hr => Nat.le_of_eq (Option.some.inj hr))
  have hown3 : w3.ownsRow w2.heap.size 9 1 v' (rowMark :: want).length ((rowMark :: want).map strW) := by
    rw [List.length_cons, Nat.add_comm]
    exact hown'
  have hS3 := strs_of_own hown3
  have hS2 := HS2.out.below hB3 (Nat.le_refl _)
  have hBw := hB2.trans (hB3.mono hB2.size)
  clear hown' hgrow hnews hlit
  refine (sameTexts_any (rowMark :: want) (by simp; omega) _ _ _ hS2 hS3).mono ?_
  rintro e w4 ⟨rfl, hb4⟩
  have hB4 := hBw.trans (hb4.mono hBw.size)
  clear hb4
  go_wp2_with fail
  go_ret
  exact ⟨rfl, hB4⟩
theorem strs_lit (W : World) (t : TypeId) (l : List (List UInt8)) : CellsIn (W.alloc (.cells (l.map strW).toArray t)) (some ⟨W.heap.size, 0, none⟩) (l.length * 1) (strC fun j => l.getD j []) := fun j hj => by
  have hj' : j < l.length := by omega
  refine ⟨W.heap.size, 0, rfl, by simp, ?_⟩
  rw [Nat.zero_add, World.cell?_alloc_new]
  simp only [List.getElem?_toArray, List.getElem?_map, List.getElem?_eq_getElem hj', Option.map_some]
  unfold strC
  dsimp only
  rw [List.getD_eq_getElem?_getD, List.getElem?_eq_getElem hj']
  rfl
set_option maxRecDepth 100000 in
set_option maxHeartbeats 4000000 in
theorem faulty_any (l : List UInt8) (hl : l.length < 900000) (hr : rowsL l = .inl (3, 0)) (w : World) (hT : VT w) :
    Calls Tryd.prog 27 #[.string ⟨l.toArray⟩] w fun e w' => e = .returned (.bool true) ∧ Below w.heap.size w w' := by
  have h := fun W (hW : VT W) => rows_any l hl W hW
  have HVT := Lib.hid hT
  rw [hr] at h
  have H := Lib.hid h
  clear h hr
  go_enter Tryd.func27, Tryd.ntmps27
  go_wp2_with fail
  refine (H.out _ (VT.below (Hid.out (by with_reducible assumption)) (by repeat' (first | (with_reducible exact Below.refl _ _) | (with_reducible assumption) | (with_reducible exact Hid.out (by with_reducible assumption)) | (with_reducible refine below_one _ ?_) | (with_reducible refine Below.drew ?_))))).mono ?_
  rintro e w1 ⟨h1, hb⟩
  have h1 : e = .returned (.tuple #[.slice none 0 0, .agg #[.int .i64 3, .int .i64 0]]) := h1
  subst h1
  have hB1 : Below w.heap.size w (w1.alloc (.cells #[.int .i64 3, .int .i64 0] 26)) := hb.alloc hb.size _
  go_wp2_with fail
  go_ret
  exact ⟨rfl, hB1⟩
/-- What the law text's number answers. -/
def numK (l : List UInt8) (low high : Int) : Int := if (numR l low high).2 = 0 then (numR l low high).1 else 1000 + ((numR l low high).2 : Int)
set_option maxRecDepth 100000 in
set_option maxHeartbeats 4000000 in
theorem lnumber_any (l : List UInt8) (hl : l.length < 900000) (low high : Int) (w : World) (hT : VT w) (hb : (numR l low high).2 < 100) :
    Calls Tryd.prog 29 #[.string ⟨l.toArray⟩, .int .i64 low, .int .i64 high] w fun e w' => e = .returned (.int .i64 (numK l low high)) ∧ Below w.heap.size w w' := by
  obtain ⟨n, x, hr⟩ : ∃ n x, numR l low high = (n, x) := ⟨_, _, rfl⟩
  have HR : Hid (numV l low high = .tuple #[.int .i64 n, .int .i64 (x : Int)]) := Lib.hid (by unfold numV; rw [hr])
  rw [hr] at hb
  have hx : x < 100 := hb
  have HK : Hid (numK l low high = if x = 0 then n else 1000 + (x : Int)) := Lib.hid (by unfold numK; rw [hr])
  clear hr hb
  by_cases h0 : x = 0
  · have hres : Hid (numK l low high = n) := Lib.hid (by rw [HK.out, if_pos h0])
    subst h0
    go_enter Tryd.func29, Tryd.ntmps29
    go_wp2_with fail
    refine (number_any l (by omega) low high _ hT).mono ?_
    rintro e w1 ⟨rfl, hb⟩
    rw [HR.out]
    go_wp2_with fail
    go_ret
    exact ⟨by rw [hres.out]; rfl, hb⟩
  · have hres : Hid (numK l low high = 1000 + (x : Int)) := Lib.hid (by rw [HK.out, if_neg h0])
    have d1 : ((x : Int) != 0) = true := by rw [bne_iff_ne]; omega
    have q1 : IntKind.i64.wrap ((1000 : Int) + (x : Int)) = 1000 + (x : Int) := wrap64 (by omega) (by omega)
    go_enter Tryd.func29, Tryd.ntmps29
    go_wp2_with fail
    refine (number_any l (by omega) low high _ hT).mono ?_
    rintro e w1 ⟨rfl, hb⟩
    rw [HR.out]
    go_wp2_with fail
    go_ret
    exact ⟨by rw [hres.out]; rfl, hb⟩
theorem aw1 : writeL [97, 32, 98] = [34, 97, 32, 98, 34] := by decide +kernel
theorem aw2 : rowsL [100, 105, 114, 32, 47, 97, 32, 32, 35, 32, 97, 108, 108, 10] = .inr [⟨0, [⟨0, [100, 105, 114], false⟩, ⟨4, [47, 97], false⟩]⟩] := by kernel_rfl
theorem aw3 : rowsL [34, 97, 92, 34, 98, 92, 92, 92, 120, 52, 49, 34] = .inr [⟨0, [⟨0, [97, 34, 98, 92, 65], true⟩]⟩] := by kernel_rfl
set_option maxRecDepth 100000 in
set_option maxHeartbeats 4000000 in
theorem awake_any (w : World) (hT : VT w) :
    Calls Tryd.prog 10 #[] w fun e w' => e = .returned (.bool true) ∧ Below w.heap.size w w' := by
  have HVT := Lib.hid hT
  clear hT
  go_enter Tryd.func10, Tryd.ntmps10
  go_wp2_with fail
  refine (write_any [97, 32, 98] (by decide) _).mono ?_
  rintro e w1 ⟨rfl, hB⟩
  rw [aw1]
  go_wp2_with fail
  refine (reads_any [100, 105, 114, 32, 47, 97, 32, 32, 35, 32, 97, 108, 108, 10] (by decide) _ aw2 (by decide) (by simp) [[100, 105, 114], [47, 97]] (by decide) rfl ⟨w1.heap.size, 0, none⟩ 2 _ (VT.below (Hid.out (by with_reducible assumption)) (by repeat' (first | (with_reducible exact Below.refl _ _) | (with_reducible assumption) | (with_reducible exact Hid.out (by with_reducible assumption)) | (with_reducible refine below_one _ ?_) | (with_reducible refine Below.drew ?_)))) (strs_lit w1 _ [[100, 105, 114], [47, 97]])).mono ?_
  rintro e w2 ⟨rfl, hb⟩
  have hB := (hB.alloc hB.size (.cells #[.string ⟨#[100, 105, 114]⟩, .string ⟨#[47, 97]⟩] 9)).trans (hb.mono (by have := hB.size; simp; omega))
  clear hb
  go_wp2_with fail
  refine (reads_any [34, 97, 92, 34, 98, 92, 92, 92, 120, 52, 49, 34] (by decide) _ aw3 (by decide) (by simp) [[97, 34, 98, 92, 65]] (by decide) rfl ⟨w2.heap.size, 0, none⟩ 1 _ (VT.below (Hid.out (by with_reducible assumption)) (by repeat' (first | (with_reducible exact Below.refl _ _) | (with_reducible assumption) | (with_reducible exact Hid.out (by with_reducible assumption)) | (with_reducible refine below_one _ ?_) | (with_reducible refine Below.drew ?_)))) (strs_lit w2 _ [[97, 34, 98, 92, 65]])).mono ?_
  rintro e w3 ⟨rfl, hb⟩
  have hB := (hB.alloc hB.size (.cells #[.string ⟨#[97, 34, 98, 92, 65]⟩] 9)).trans (hb.mono (by have := hB.size; simp; omega))
  clear hb
  go_wp2_with fail
  go_ret
  exact ⟨rfl, hB⟩
end Go.Proofs.YtacceiloggnekaaDoor
