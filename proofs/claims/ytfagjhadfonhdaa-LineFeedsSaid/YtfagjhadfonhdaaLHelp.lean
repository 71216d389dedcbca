/-
  The law text's four, good, bad, feeds and awake.
-/
import Derived.Test.YtfagjhadfonhdaaLPrA
namespace Go.Proofs.Ytfagjhadfonhdaa
open Go.RowKit
theorem lbelow_one {w wx : World} (o : Obj) (h : Below w.heap.size w wx) : Below w.heap.size w (wx.alloc o) := h.alloc h.size o
theorem spr_result {w : World} {B : Nat} {a b c : Value} (h1 : CBlk 24 w B [a, b, c]) {fn : Func} {p : Tmp} (h : fn.results = #[.cell p 24]) (tmps : Array Value)
    (hp : tmps.getD p undef = .pointer (some ⟨B, 0, none⟩)) : (Go.results fn tmps).run Try.prog w = .ok (.agg #[a, b, c]) w := by
  have hp' : tmps[p]?.getD undef = .pointer (some ⟨B, 0, none⟩) := by simpa using hp
  obtain ⟨c0, c1, c2⟩ := h1.cells3
  simp [Go.results, h, hp', asAddr, go_sem, c0, c1, c2]
theorem lbelow_call {w wx w1 : World} (h : Below w.heap.size w wx) (hb : Below wx.heap.size wx w1) : Below w.heap.size w w1 := h.trans (hb.mono h.size)
def fourS (t : List UInt8) : Sp := ⟨4, t, false⟩
set_option maxHeartbeats 1000000 in
theorem four_any (t : List UInt8) (w : World) :
    Calls Try.prog 10 #[.string ⟨t.toArray⟩] w fun e w' => e = .returned (.agg #[.int .i64 4, .string ⟨t.toArray⟩, .bool false]) ∧ Below w.heap.size w w' := by
  go_enter Try.func10, Try.ntmps10
  go_wp2_with fail
  exact bodyPost_ret (spr_result (CBlk.new 24 w [.int .i64 4, .string ⟨t.toArray⟩, .bool false]) rfl _ rfl) rfl ⟨rfl, (Below.refl _ _).alloc (Nat.le_refl _) _⟩
set_option maxHeartbeats 1000000 in
theorem goodL_any (t : List UInt8) (w : World) :
    Calls Try.prog 11 #[.string ⟨t.toArray⟩] w fun e w' => e = .returned (.agg #[.string ⟨t.toArray⟩, .bool true]) ∧ Below w.heap.size w w' := by
  go_enter Try.func11, Try.ntmps11
  go_wp2_with fail
  exact bodyPost_ret (ln_result (CBlk.new 27 w [.string ⟨t.toArray⟩, .bool true]) rfl _ rfl) rfl ⟨rfl, (Below.refl _ _).alloc (Nat.le_refl _) _⟩
set_option maxHeartbeats 1000000 in
theorem badL_any (t : List UInt8) (w : World) :
    Calls Try.prog 12 #[.string ⟨t.toArray⟩] w fun e w' => e = .returned (.agg #[.string ⟨t.toArray⟩, .bool false]) ∧ Below w.heap.size w w' := by
  go_enter Try.func12, Try.ntmps12
  go_wp2_with fail
  exact bodyPost_ret (ln_result (CBlk.new 27 w [.string ⟨t.toArray⟩, .bool false]) rfl _ rfl) rfl ⟨rfl, (Below.refl _ _).alloc (Nat.le_refl _) _⟩
theorem lns_lit (W : World) (L : List Ln) : LnsAt (W.alloc (.cells (lnsC L).toArray 27)) (.slice (some ⟨W.heap.size, 0, none⟩) L.length L.length) L :=
  ⟨_, _, rfl, (fun h => by cases h), fun j hj => by
    have hj' : j < (lnsC L).length := by rw [lnsC_length]; exact hj
    refine ⟨W.heap.size, 0, rfl, by simp, ?_⟩
    rw [Nat.zero_add, World.cell?_alloc_new]
    dsimp only
    rw [List.getD_eq_getElem?_getD, List.getElem?_eq_getElem hj']
    simp [hj']⟩
set_option maxRecDepth 100000 in
set_option maxHeartbeats 4000000 in
theorem feeds_ok (s : Sp) (c : List UInt8) (nx : Sp) (L : List Ln) (hr : feedR s c = ((nx, L), 0)) (hl : s.txt.length < 100000) (hc : c.length < 100000) (hL : L.length < 10000000) (v : Value) (w : World) (hv : LnsAt w v L) :
    Calls Try.prog 9 #[.agg #[.int .i64 s.lim, .string ⟨s.txt.toArray⟩, .bool s.lg], .string ⟨c.toArray⟩, .agg #[.int .i64 nx.lim, .string ⟨nx.txt.toArray⟩, .bool nx.lg], v] w fun e w' => e = .returned (.bool true) ∧ Below w.heap.size w w' := by
  obtain ⟨sn, st, sg⟩ := s
  obtain ⟨n, t, g⟩ := nx
  dsimp only at hl ⊢
  have HR := Lib.hid hr
  have HV := Lib.hid hv
  clear hr hv
  obtain ⟨W0, hW0⟩ : ∃ W0, (w.alloc (.cells #[.int .i64 sn, .string ⟨st.toArray⟩, .bool sg] 24)).alloc (.cells #[.int .i64 n, .string ⟨t.toArray⟩, .bool g] 24) = W0 := ⟨_, rfl⟩
  have hB : Below w.heap.size w W0 := by
    rw [← hW0]
    exact ((Below.refl _ _).alloc (Nat.le_refl _) _).alloc (by simp) _
  have b1 : CBlk 24 W0 w.heap.size [.int .i64 sn, .string ⟨st.toArray⟩, .bool sg] := by
    rw [← hW0]
    exact (CBlk.new _ w _).alloc _
  have b2 : CBlk 24 W0 (w.heap.size + 1) [.int .i64 n, .string ⟨t.toArray⟩, .bool g] := by
    rw [← hW0]
    have h := CBlk.new 24 (w.alloc (.cells #[.int .i64 sn, .string ⟨st.toArray⟩, .bool sg] 24)) [.int .i64 n, .string ⟨t.toArray⟩, .bool g]
    simpa using h
  obtain ⟨a0, a1, a2⟩ := b1.cells3
  have HB := Lib.hid hB
  have HB2 := Lib.hid b2
  have HW0 := Lib.hid hW0
  clear hB b1 b2 hW0
  go_enter Try.func9, Try.ntmps9
  go_upto_region 1 with fail
  rw [HW0.out]
  go_wp2_with fail
  refine (lfeed_any ⟨sn, st, sg⟩ c hl hc _).mono ?_
  rintro e w1 ⟨⟨u, rfl, hun⟩, hb⟩
  have hu := hun.at'
  clear hun
  rw [HR.out] at hu ⊢
  dsimp only at hu ⊢
  have b2 := HB2.out.below hb HB2.out.lt
  have hB := HB.out.trans (hb.mono HB.out.size)
  have hv := HV.out.below hB (Nat.le_refl _)
  obtain ⟨W2, hW2⟩ : ∃ W2, w1.alloc (.cells #[.int .i64 n, .string ⟨t.toArray⟩, .bool g] 24) = W2 := ⟨_, rfl⟩
  have b2 : CBlk 24 W2 (w.heap.size + 1) [.int .i64 n, .string ⟨t.toArray⟩, .bool g] := by rw [← hW2]; exact b2.alloc _
  have b9 : CBlk 24 W2 w1.heap.size [.int .i64 n, .string ⟨t.toArray⟩, .bool g] := by rw [← hW2]; exact CBlk.new _ _ _
  have hub : Below w1.heap.size w1 W2 := by rw [← hW2]; exact (Below.refl _ _).alloc (Nat.le_refl _) _
  have hu := hu.below hub (Nat.le_refl _)
  have hv := hv.below hub (Nat.le_refl _)
  have HB := Lib.hid (hB.trans (hub.mono hB.size))
  have HU := Lib.hid hu
  have HV := Lib.hid hv
  have HW2 := Lib.hid hW2
  obtain ⟨c0, c1, c2⟩ := b2.cells3
  obtain ⟨d0, d1, d2⟩ := b9.cells3
  clear hu hv hub b2 b9 hB hb hW2 a0 a1 a2
  unfold spV
  dsimp only
  go_upto_region 2 with fail
  rw [HW2.out]
  obtain ⟨pu, cu, rfl, -⟩ := id HU.out
  go_wp2_with fail
  refine (sameLines_any L hL _ _ _ HU.out HV.out).mono ?_
  rintro e w3 ⟨rfl, hb⟩
  have hB := HB.out.trans (hb.mono HB.out.size)
  clear hb
  go_wp2_with fail
  go_ret
  exact ⟨rfl, hB⟩
set_option maxRecDepth 100000 in
set_option maxHeartbeats 8000000 in
theorem lawake_any (w : World) :
    Calls Try.prog 18 #[] w fun e w' => e = .returned (.bool true) ∧ Below w.heap.size w w' := by
  go_enter Try.func18, Try.ntmps18
  go_wp2_with fail
  refine (four_any [] _).mono ?_
  rintro e w1 ⟨rfl, hB⟩
  go_wp2_with fail
  refine (four_any [99] _).mono ?_
  rintro e w2 ⟨rfl, hb⟩
  have hB := hB.trans (hb.mono hB.size)
  clear hb
  go_wp2_with fail
  refine (goodL_any [97, 98] _).mono ?_
  rintro e w3 ⟨rfl, hb⟩
  have hB := hB.trans (hb.mono hB.size)
  clear hb
  have hlit := lns_lit w3 ([⟨[97, 98], true⟩] : List Ln)
  have hB := hB.alloc hB.size (.cells (lnsC ([⟨[97, 98], true⟩] : List Ln)).toArray 27)
  go_wp2_with fail
  refine (feeds_ok ⟨4, [], false⟩ [97, 98, 13, 10, 99] ⟨4, [99], false⟩ [⟨[97, 98], true⟩] (by kernel_rfl) (by decide) (by decide) (by decide) _ _ hlit).mono ?_
  rintro e w4 ⟨rfl, hb⟩
  have hB := hB.trans (hb.mono hB.size)
  clear hb
  clear hlit
  go_wp2_with fail
  refine (four_any [99] _).mono ?_
  rintro e w5 ⟨rfl, hb⟩
  have hB := hB.trans (hb.mono hB.size)
  clear hb
  go_wp2_with fail
  refine (four_any [] _).mono ?_
  rintro e w6 ⟨rfl, hb⟩
  have hB := hB.trans (hb.mono hB.size)
  clear hb
  go_wp2_with fail
  refine (badL_any [99] _).mono ?_
  rintro e w7 ⟨rfl, hb⟩
  have hB := hB.trans (hb.mono hB.size)
  clear hb
  have hlit := lns_lit w7 ([⟨[99], false⟩] : List Ln)
  have hB := hB.alloc hB.size (.cells (lnsC ([⟨[99], false⟩] : List Ln)).toArray 27)
  go_wp2_with fail
  refine (feeds_ok ⟨4, [99], false⟩ [10] ⟨4, [], false⟩ [⟨[99], false⟩] (by kernel_rfl) (by decide) (by decide) (by decide) _ _ hlit).mono ?_
  rintro e w8 ⟨rfl, hb⟩
  have hB := hB.trans (hb.mono hB.size)
  clear hb
  clear hlit
  go_wp2_with fail
  refine (four_any [] _).mono ?_
  rintro e w9 ⟨rfl, hb⟩
  have hB := hB.trans (hb.mono hB.size)
  clear hb
  go_wp2_with fail
  refine (feeds_ok ⟨4, [], false⟩ [97, 98, 99, 100, 13, 10] ⟨4, [], true⟩ [] (by kernel_rfl) (by decide) (by decide) (by decide) _ _ (LnsAt.nil _)).mono ?_
  rintro e w10 ⟨rfl, hb⟩
  have hB := hB.trans (hb.mono hB.size)
  clear hb
  go_wp2_with fail
  go_ret
  exact ⟨rfl, hB⟩
end Go.Proofs.Ytfagjhadfonhdaa
