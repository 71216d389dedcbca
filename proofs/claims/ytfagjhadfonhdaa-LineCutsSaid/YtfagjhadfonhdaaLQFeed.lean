/-
  The program's Feed.
-/
import Derived.Test.YtfagjhadfonhdaaLQIter
import Derived.BigRegionIn
namespace Go.Proofs.Ytfagjhadfonhdaa
open Go.RowKit Go.Shelf
attribute [local go_sem] Oper.semAt_some
theorem CBlk.cell1 {t : TypeId} {w : World} {B : Nat} {a : Value} (h : CBlk t w B [a]) : w.cell? ⟨B, 0, none⟩ = some a := h.cell 0 (by simp)
/-- The deferred call of Feed: the splitter becomes the machine's. -/
theorem feedD_any (n : Nat) (Mb Nx B bc cap k : Nat) (lim : Int) (S C : List UInt8) (g : Bool) (a b c : Value) (u : FrameMode) (w : World)
    (hmb : CBlk 54 w Mb [.pointer (some ⟨B, 0, none⟩)]) (hm : CBlk 59 w B (mC lim S g bc C cap k)) (hx : CBlk 24 w Nx [a, b, c]) :
    CallsDIn Fence.wide n Try.prog 36 #[.pointer (some ⟨Mb, 0, none⟩), .pointer (some ⟨Nx, 0, none⟩)] u w fun e u' w' => u' = u ∧ (e = .returned (.tuple #[]) ∧ w' = ((w.setCell ⟨Nx, 0, none⟩ (.int .i64 lim)).setCell ⟨Nx, 1, none⟩ (.string ⟨S.toArray⟩)).setCell ⟨Nx, 2, none⟩ (.bool g)) := by
  have c0 := hmb.cell1
  obtain ⟨m0, m1, m2, -, -⟩ := (show CBlk 59 w B [.int .i64 lim, .string ⟨S.toArray⟩, .bool g, .slice (some ⟨bc, 0, none⟩) C.length cap, .int .i64 (k : Int)] from hm).cells5
  obtain ⟨x0, x1, x2⟩ := hx.cells3
  have f0 := hx.free 0
  have f1 := hx.free 1
  have f2 := hx.free 2
  refine callsDIn_of_wp Try.func36 rfl trivial ?_
  simp only [Try.ntmps36, List.size_toArray, List.length_cons, List.length_nil, Nat.reduceAdd, Nat.reduceSub, Array.replicate_succ, Array.replicate_zero, List.push_toArray, List.append_toArray, List.nil_append, List.cons_append]
  gi_wp2
  go_end0
  exact ⟨rfl, rfl⟩
theorem feed_results {w : World} {B C : Nat} {a b c v : Value} (h1 : CBlk 24 w B [a, b, c]) (h2 : CBlk 32 w C [v]) {fn : Func} {p q r : Tmp} (h : fn.results = #[.cell p 24, .cell q 32, .tmp r]) (tmps : Array Value) (e : Value)
    (hp : tmps.getD p undef = .pointer (some ⟨B, 0, none⟩)) (hq : tmps.getD q undef = .pointer (some ⟨C, 0, none⟩)) (hr : tmps.getD r undef = e) : (Go.results fn tmps).run Try.prog w = .ok (.tuple #[.agg #[a, b, c], v, e]) w := by
  have hp' : tmps[p]?.getD undef = .pointer (some ⟨B, 0, none⟩) := by simpa using hp
  have hq' : tmps[q]?.getD undef = .pointer (some ⟨C, 0, none⟩) := by simpa using hq
  have hr' : tmps[r]?.getD undef = e := by simpa using hr
  obtain ⟨c0, c1, c2⟩ := h1.cells3
  have d0 := h2.cell1
  simp [Go.results, h, hp', hq', hr', asAddr, go_sem, c0, c1, c2, d0]
theorem feedL_lim (n : Int) : ∀ (c t : List UInt8), (feedL n t c).1.lim = n
  | [], t => rfl
  | c :: r, t => by
    unfold feedL
    split
    · exact feedL_lim n r []
    · split
      · rfl
      · exact feedL_lim n r (t ++ [c])
theorem errS_ok {n : Int} {t : List UInt8} {g : Bool} (h : errS ⟨n, t, g⟩ = 0) : (1 ≤ n ∧ n ≤ 1536) ∧ (t.length : Int) ≤ n := by
  have hc : chkS ⟨n, t, g⟩ = 0 := by
    unfold errS at h
    split at h
    · assumption
    · exact h
  unfold chkS at hc
  dsimp only at hc
  split at hc
  · cases hc
  · split at hc
    · cases hc
    · omega
/-- Memory of Feed: what is ahead of the loop, the lines so far. -/
structure FM (w w4 W : World) (Mb B : Nat) (v : Value) (P : List Ln) : Prop where
  b1 : CBlk 24 W (w.heap.size + 1) [.int .i64 0, .string ⟨#[]⟩, .bool false]
  b2 : CBlk 32 W (w.heap.size + 1 + 1) [v]
  bm : CBlk 54 W Mb [.pointer (some ⟨B, 0, none⟩)]
  row : W.ownsRow (w4.heap.size + 2) 27 2 v P.length (lnsC P)
  bel : Below w.heap.size w W
  sz : w4.heap.size ≤ W.heap.size
theorem FM.kept {w w4 W W' : World} {Mb B : Nat} {v : Value} {P : List Ln} (h : FM w w4 W Mb B v P) {r : Nat} (hg : W.grownBy W' (some r)) (h1 : w.heap.size + 1 + 1 < r) (h2 : Mb ≠ r) (h3 : r < w4.heap.size + 2) : FM w w4 W' Mb B v P :=
  ⟨h.b1.kept hg (fun e => by injection e; omega), h.b2.kept hg (fun e => by injection e; omega), h.bm.kept hg (fun e => h2 (by injection e)),
    h.row.kept hg (.inr (fun e => by have := (h.row.lt r e).1; omega)), below_grownR h.bel h.bel.size hg (fun k hk => by injection hk; omega), Nat.le_trans h.sz hg.size⟩
theorem FM.alloc {w w4 W : World} {Mb B : Nat} {v : Value} {P : List Ln} (h : FM w w4 W Mb B v P) (o : Obj) : FM w w4 (W.alloc o) Mb B v P :=
  ⟨h.b1.alloc o, h.b2.alloc o, h.bm.alloc o, h.row.alloc o, h.bel.alloc h.bel.size o, Nat.le_trans h.sz (by simp)⟩
set_option maxRecDepth 100000 in
set_option maxHeartbeats 16000000 in
theorem lfeed_any (s : Sp) (c : List UInt8) (hl : s.txt.length < 100000) (hc : c.length < 100000) (w : World) :
    Calls Try.prog 14 #[spV s, .string ⟨c.toArray⟩] w fun e w' => FeedRes w.heap.size (feedR s c) e w' ∧ Below w.heap.size w w' := by
  obtain ⟨i0, hi, hz0, hz1, hz2⟩ := linfo_parts infoLn
  obtain ⟨n, t, g⟩ := s
  dsimp only at hl
  obtain ⟨W0, hW0⟩ : ∃ W0, ((w.alloc (.cells #[.int .i64 n, .string ⟨t.toArray⟩, .bool g] 24)).alloc (.cells #[.int .i64 0, .string ⟨#[]⟩, .bool false] 24)).alloc (.cells #[.slice none 0 0] 32) = W0 := ⟨_, rfl⟩
  have hB : Below w.heap.size w W0 := by
    rw [← hW0]
    exact (((Below.refl _ _).alloc (Nat.le_refl _) _).alloc (by simp) _).alloc (by simp; omega) _
  have b0 : CBlk 24 W0 w.heap.size [.int .i64 n, .string ⟨t.toArray⟩, .bool g] := by
    rw [← hW0]
    exact ((CBlk.new _ w _).alloc _).alloc _
  have b1 : CBlk 24 W0 (w.heap.size + 1) [.int .i64 0, .string ⟨#[]⟩, .bool false] := by
    rw [← hW0]
    have h := (CBlk.new 24 (w.alloc (.cells #[.int .i64 n, .string ⟨t.toArray⟩, .bool g] 24)) [.int .i64 0, .string ⟨#[]⟩, .bool false]).alloc (.cells #[.slice none 0 0] 32)
    simpa using h
  have b2 : CBlk 32 W0 (w.heap.size + 1 + 1) [.slice none 0 0] := by
    rw [← hW0]
    have h := CBlk.new 32 ((w.alloc (.cells #[.int .i64 n, .string ⟨t.toArray⟩, .bool g] 24)).alloc (.cells #[.int .i64 0, .string ⟨#[]⟩, .bool false] 24)) [.slice none 0 0]
    simpa using h
  have hs : W0.heap.size = w.heap.size + 3 := by rw [← hW0]; simp
  obtain ⟨a0, a1, a2⟩ := b0.cells3
  have HB := Lib.hid hB
  have HB1 := Lib.hid b1
  have HB2 := Lib.hid b2
  have HS := Lib.hid hs
  clear hB b0 b1 b2 hs
  refine (callsIn_wide (n := 5)).1 ?_
  unfold spV
  refine callsIn_of_wp_marks Try.func14 rfl trivial ?_ rfl
  simp only [Try.ntmps14, List.size_toArray, List.length_cons, List.length_nil, Nat.reduceAdd, Nat.reduceSub, Array.replicate_succ, Array.replicate_zero, List.push_toArray, List.append_toArray, List.nil_append, List.cons_append]
  gi_upto_region 1 with fail
  clear hW0
  gi_wp2_with fail
  refine ⟨trivial, ?_⟩
  refine (callsIn_wide.2 (newMachine_any ⟨n, t, g⟩ c hl hc W0)).mono ?_
  rintro e w1 ⟨hp, hb⟩
  have hB' := HB.out.trans (hb.mono HB.out.size)
  have h1' := HB1.out.below hb HB1.out.lt
  have h2' := HB2.out.below hb HB2.out.lt
  have hsz := hb.size
  clear hb a0 a1 a2 HB HB1 HB2
  obtain ⟨x, hx⟩ : ∃ x, errS ⟨n, t, g⟩ = x := ⟨_, rfl⟩
  unfold NewMach at hp
  dsimp only at hp
  rw [hx] at hp
  by_cases h0 : x = 0
  · subst h0
    rw [if_pos rfl] at hp
    obtain ⟨B, bc, cap, rfl, hm, hch, hbc, hbB, hcap⟩ := hp
    have HX := Lib.hid hx
    obtain ⟨W2, hW2⟩ : ∃ W2, w1.alloc (.cells #[.pointer (some ⟨B, 0, none⟩)] 54) = W2 := ⟨_, rfl⟩
    have G1 : Hid (CBlk 24 W2 (w.heap.size + 1) [.int .i64 0, .string ⟨#[]⟩, .bool false]) := Lib.hid (by rw [← hW2]; exact h1'.alloc _)
    have G2 : Hid (CBlk 32 W2 (w.heap.size + 1 + 1) [.slice none 0 0]) := Lib.hid (by rw [← hW2]; exact h2'.alloc _)
    have gm : CBlk 54 W2 w1.heap.size [.pointer (some ⟨B, 0, none⟩)] := by rw [← hW2]; exact CBlk.new _ w1 _
    have GB : Hid (Below w.heap.size w W2) := Lib.hid (by rw [← hW2]; exact hB'.alloc hB'.size _)
    have HM2 : Hid (CBlk 59 W2 B (mC n t false bc c cap 0)) := Lib.hid (by rw [← hW2]; exact hm.alloc _)
    have HCH2 : Hid (ChAt W2 bc c) := Lib.hid (by rw [← hW2]; exact hch.block (Below.heap_alloc _ _ _ hch.1) (by simp))
    have HS2 : Hid (W2.heap.size = w1.heap.size + 1) := Lib.hid (by rw [← hW2]; simp)
    have HBlt := Lib.hid hm.lt
    have m0 := gm.cell1
    have GM := Lib.hid gm
    clear h1' h2' gm hB' hm hch hx
    gi_upto_region 2 with fail
    clear hW2
    gi_wp2_with fail
    refine ⟨trivial, ?_⟩
    refine (callsIn_wide.2 (lines_any B W2)).mono ?_
    rintro e w' ⟨rfl, rfl⟩
    generalize hW4 : W2.alloc (.cells #[.pointer (some ⟨B, 0, none⟩)] 54) = W4
    gi_wp2_with fail
    obtain ⟨hlim, hS0⟩ := errS_ok HX.out
    have hq24 : W2.heap.size < W4.heap.size := by rw [← hW4, World.size_alloc]; omega
    have hq2 : w1.heap.size < W2.heap.size := by have := HS2.out; omega
    have hBl : B < w1.heap.size := HBlt.out
    have hq0 : w.heap.size + 2 < W0.heap.size := by have := HS.out; omega
    have hgN : W2.grownBy W4 none := by rw [← hW4]; exact gr_alloc (World.grownBy.refl _ _) _
    have hbox : W4.cell? ⟨W2.heap.size, 0, none⟩ = some (.pointer (some ⟨B, 0, none⟩)) := by rw [← hW4]; exact (CBlk.new 54 W2 [.pointer (some ⟨B, 0, none⟩)]).cell1
    have hm4 : CBlk 59 W4 B (mC n t false bc c cap 0) := HM2.out.kept hgN (by simp)
    have hch4 : ChAt W4 bc c := HCH2.out.block (hgN.block _ HCH2.out.1 (by simp)) hgN.size
    have hF4 : FM w W4 W4 w1.heap.size B (.slice none 0 0) [] := ⟨G1.out.kept hgN (by simp), G2.out.kept hgN (by simp), GM.out.kept hgN (by simp), World.ownsRow_nil _ _ _ _, below_grownR GB.out GB.out.size hgN (fun k e => by cases e), Nat.le_refl _⟩
    clear hW4 m0 G1 G2 GM GB HM2 HCH2 HS2 HS HBlt hgN
    refine rangeM (by omega) W2.heap.size B bc cap n t c hlim hS0 hc hcap (by omega) (by omega) rfl rfl hbox hm4 hch4
      (fun pre W => ∃ v, FM w W4 W w1.heap.size B v (pre.map (·.2))) (fun _ _ => False)
      ?hIB ?hIL (fun _ _ _ h _ => h) ⟨_, hF4⟩ ?round ?done (fun _ _ _ _ _ h _ _ => h.elim)
    case hIB =>
      rintro pre W W' ⟨v, h⟩ hg
      exact ⟨v, h.kept hg (by omega) (by omega) (by omega)⟩
    case hIL =>
      rintro pre W W' ⟨v, h⟩ hg
      exact ⟨v, h.kept hg (by omega) (by omega) (by omega)⟩
    case round =>
      clear hbox hm4 hch4 hF4
      rintro pre ⟨k, ⟨tx, gd⟩⟩ W ⟨v, hF⟩ - hpl hkl hsz
      dsimp only at hpl hkl
      unfold encX lnV
      dsimp only
      gi_wp2
      refine ⟨gr_alloc (World.grownBy.refl _ _) _, ?_⟩
      intro W5 hg5
      have hF5 := (hF.alloc (.cells #[.string ⟨tx.toArray⟩, .bool gd] 27)).kept hg5 (by omega) (by omega) (by omega)
      have hone : CBlk 27 W5 W.heap.size [.string ⟨tx.toArray⟩, .bool gd] := (CBlk.new 27 W [.string ⟨tx.toArray⟩, .bool gd]).kept hg5 (fun e => by injection e; omega)
      obtain ⟨o0, o1⟩ := hone.cells2
      obtain ⟨ov, oc, rfl⟩ := own_slice hF5.row
      have c2 := hF5.b2.cell1
      have hlen : (pre.map (·.2)).length ≤ pre.length := Nat.le_of_eq (List.length_map _)
      have hlt5 : W4.heap.size + 2 ≤ W5.heap.size := by have := hg5.size; rw [World.size_alloc] at this; omega
      obtain ⟨P, hP⟩ : ∃ P, pre.map (·.2) = P := ⟨_, rfl⟩
      have hP2 : (pre ++ [((k, ⟨tx, gd⟩) : XL)]).map (·.2) = P ++ [⟨tx, gd⟩] := by rw [List.map_append, hP]; rfl
      rw [hP] at hF5 hlen c2
      have z1 : (Value.agg #[.string ⟨#[]⟩, .bool false]).cells.size = 2 := by rfl
      have z2 : ∀ u ∈ ([.string ⟨tx.toArray⟩, .bool gd] : List Value), u.oneCell' = true := by simp [Value.oneCell']
      have z3 : P.length + 1 ≤ maxLen := by unfold maxLen; omega
      have z4 : W4.heap.size + 2 ≤ (W5.alloc (.cells #[.string ⟨tx.toArray⟩, .bool gd] 27)).heap.size := by rw [World.size_alloc]; omega
      have HF5 := Lib.hid hF5
      have HF6 := Lib.hid (hF5.alloc (.cells #[.string ⟨tx.toArray⟩, .bool gd] 27))
      have HP2 := Lib.hid hP2
      clear hF hone hP hP2 hF5 hg5
      gi_wp2_with (gi_at_builtin; refine wpListIn_append_own _ rfl _ _ 32 rfl (W4.heap.size + 2) 27 i0 (.agg #[.string ⟨#[]⟩, .bool false]) 2 24 Try.underlying32 hi hz0 hz1 hz2 z1 (by decide) _ _ _ rfl HF6.out.row ⟨W5.heap.size, 0, none⟩ 1 1 [.string ⟨tx.toArray⟩, .bool gd] rfl rfl (lcell_news W5 _ _) z2 z3 (by omega) z4 ?_; intro v' w6 hown' hgrow _; obtain ⟨g2, cc, rfl, -, -⟩ := World.ownsRow.form hown' (by omega); have HG := Lib.hid hgrow; have HO := Lib.hid hown'; have b26 := HF6.out.b2.kept hgrow (fun e => by have := (HF6.out.row.lt _ e.symm).1; omega); clear hgrow hown'; have k3 := b26.cell1; have k4 := b26.free 0)
      have hown : ∀ q, q < W4.heap.size + 2 → some q ≠ (Value.slice ov P.length oc).ownBlock := fun q hq e => by have := (HF6.out.row.lt q e.symm).1; omega
      have hk : ∀ q, q < W4.heap.size + 2 → q ≠ w.heap.size + 1 + 1 → (w6.setCell ⟨w.heap.size + 1 + 1, 0, none⟩ (.slice (some ⟨g2, 0, none⟩) (P.length + 1) cc)).heap[q]? = W5.heap[q]? := fun q hq hne =>
        (Below.heap_setCell _ _ _ _ (fun e => hne e)).trans ((HG.out.block q (by rw [World.size_alloc]; omega) (hown q hq)).trans (Below.heap_alloc _ _ _ (by omega)))
      have hsz6 : W5.heap.size ≤ w6.heap.size := by have := HG.out.size; rw [World.size_alloc] at this; omega
      refine ⟨⟨by simpa using hsz6, hk _ (by omega) (by omega), hk _ (by omega) (by omega)⟩, ⟨by simpa using hsz6, hk _ (by omega) (by omega), hk _ (by omega) (by omega), hk _ (by omega) (by omega)⟩, .slice (some ⟨g2, 0, none⟩) (P.length + 1) cc, ?_⟩
      rw [HP2.out]
      refine ⟨(HF6.out.b1.kept HG.out (hown _ (by omega))).other _ (by show w.heap.size + 1 + 1 ≠ _; omega) _, b26.set 0 (.slice (some ⟨g2, 0, none⟩) (P.length + 1) cc), (HF6.out.bm.kept HG.out (hown _ (by omega))).other _ (by show w.heap.size + 1 + 1 ≠ _; omega) _, ?_, (below_grownR HF6.out.bel HF6.out.bel.size HG.out (fun r hr => by have := (HF6.out.row.lt r hr).1; omega)).setCell (p := ⟨w.heap.size + 1 + 1, 0, none⟩) (by show _ ≤ w.heap.size + 1 + 1; omega) _, by simp only [World.size_setCell]; omega⟩
      rw [lnsC_append, List.length_append]
      exact ownsRow_setCell_below HO.out (a := ⟨w.heap.size + 1 + 1, 0, none⟩) (by show w.heap.size + 1 + 1 < _; omega) _
    case done =>
      clear hbox hm4 hch4 hF4
      rintro W' k ⟨v, hF⟩ hmf hD
      rw [feedX_snd] at hF
      obtain ⟨P, hP⟩ : ∃ P, (feedL n t c).2 = P := ⟨_, rfl⟩
      rw [hP] at hF
      obtain ⟨ov, oc, rfl⟩ := own_slice hF.row
      have HP := Lib.hid hP
      clear hP
      obtain ⟨x0, x1, x2⟩ := hF.b1.cells3
      have y0 := hF.b2.cell1
      have f0 := hF.b1.free 0
      have f1 := hF.b1.free 1
      have f2 := hF.b1.free 2
      have f3 := hF.b2.free 0
      have HF := Lib.hid hF
      have HM := Lib.hid hmf
      have HD := Lib.hid hD
      clear hF hmf hD
      gi_upto_region 8 with fail
      gi_region
      all_goals
        gi_wp2_with fail
        generalize hW5 : ((((W'.setCell ⟨w.heap.size + 1, 0, none⟩ (.int .i64 0)).setCell ⟨w.heap.size + 1, 1, none⟩ (.string ⟨#[]⟩)).setCell ⟨w.heap.size + 1, 2, none⟩ (.bool false)).setCell ⟨w.heap.size + 1 + 1, 0, none⟩ (.slice ov P.length oc)).drew = W5
        have g1 : CBlk 24 W5 (w.heap.size + 1) [.int .i64 0, .string ⟨#[]⟩, .bool false] := by
          rw [← hW5]
          exact (HF.out.b1.store3 rfl _ _ _).other ⟨w.heap.size + 1 + 1, 0, none⟩ (by simp) _
        have g2 : CBlk 32 W5 (w.heap.size + 1 + 1) [.slice ov P.length oc] := by
          rw [← hW5]
          exact (((HF.out.b2.other ⟨w.heap.size + 1, 0, none⟩ (by simp) _).other ⟨w.heap.size + 1, 1, none⟩ (by simp) _).other ⟨w.heap.size + 1, 2, none⟩ (by simp) _).set 0 (.slice ov P.length oc)
        have hot : ∀ q, q ≠ w.heap.size + 1 → q ≠ w.heap.size + 1 + 1 → W5.heap[q]? = W'.heap[q]? := by
          intro q h1 h2
          rw [← hW5]
          exact (Below.heap_setCell _ _ _ _ (fun e => h2 e)).trans ((Below.heap_setCell _ _ _ _ (fun e => h1 e)).trans ((Below.heap_setCell _ _ _ _ (fun e => h1 e)).trans (Below.heap_setCell _ _ _ _ (fun e => h1 e))))
        have gm : CBlk 54 W5 w1.heap.size [.pointer (some ⟨B, 0, none⟩)] := (hot _ (by omega) (by omega)).trans HF.out.bm
        have gM : CBlk 59 W5 B (mC n (feedL n t c).1.txt (feedL n t c).1.lg bc c cap k) := (hot _ (by omega) (by omega)).trans HM.out
        have gD := (hot W4.heap.size (by omega) (by omega)).trans HD.out
        have gr : W5.ownsRow (W4.heap.size + 2) 27 2 (.slice ov P.length oc) P.length (lnsC P) := by
          rw [← hW5]
          exact ownsRow_setCell_below (ownsRow_setCell_below (ownsRow_setCell_below (ownsRow_setCell_below HF.out.row (a := ⟨w.heap.size + 1, 0, none⟩) (by show w.heap.size + 1 < _; omega) _) (a := ⟨w.heap.size + 1, 1, none⟩) (by show w.heap.size + 1 < _; omega) _) (a := ⟨w.heap.size + 1, 2, none⟩) (by show w.heap.size + 1 < _; omega) _) (a := ⟨w.heap.size + 1 + 1, 0, none⟩) (by show w.heap.size + 1 + 1 < _; omega) _
        have gB : Below w.heap.size w W5 := by
          rw [← hW5]
          exact ((below_store3 HF.out.bel (Nat.le_succ _) _ _ _).setCell (p := ⟨w.heap.size + 1 + 1, 0, none⟩) (by show _ ≤ w.heap.size + 1 + 1; omega) _).drew
        clear hW5 hot
        have hgp := grownBy_putObj' W5 W4.heap.size (.deferred none)
        refine ⟨by simp, .inl ⟨_, _, rfl, run_takeDeferred gD, ?_⟩⟩
        refine ⟨by simp, .inr ⟨fun _ => by omega, _, _, 36, #[.pointer (some ⟨w1.heap.size, 0, none⟩), .pointer (some ⟨w.heap.size + 1, 0, none⟩)], rfl, ?_, ?_, ?_⟩⟩
        · simp [invoke, go_sem]
        · intro _ _
          trivial
        · have g1' := g1.kept hgp (fun e => by injection e; omega)
          have g2' := g2.kept hgp (fun e => by injection e; omega)
          have gr' := gr.kept hgp (.inr (fun e => by have := (gr.lt _ e).1; omega))
          have gB' := below_grownR gB gB.size hgp (fun r e => by injection e; omega)
          refine (feedD_any _ w1.heap.size (w.heap.size + 1) B bc cap k n _ c _ _ _ _ _ _ (gm.kept hgp (fun e => by injection e; omega)) (gM.kept hgp (fun e => by injection e; omega)) g1').mono ?_
          rintro e u' w'' ⟨rfl, rfl, rfl⟩
          refine ⟨_, feed_results (g1'.store3 rfl _ _ _) (((g2'.other ⟨w.heap.size + 1, 0, none⟩ (by simp) _).other ⟨w.heap.size + 1, 1, none⟩ (by simp) _).other ⟨w.heap.size + 1, 2, none⟩ (by simp) _) rfl _ _ rfl rfl rfl, ?_, below_store3 gB' (Nat.le_succ _) _ _ _⟩
          have hR : feedR ⟨n, t, g⟩ c = (feedL n t c, 0) := by unfold feedR; rw [HX.out, if_pos rfl]
          rw [hR]
          refine ⟨.slice ov P.length oc, ?_, ?_⟩
          · have := feedL_lim n c t
            unfold spV
            dsimp only
            rw [this]
            rfl
          · refine lnsN_of_own (e := 27) ?_
            dsimp only
            rw [HP.out]
            exact World.ownsRow.mono (ownsRow_setCell_below (ownsRow_setCell_below (ownsRow_setCell_below gr' (a := ⟨w.heap.size + 1, 0, none⟩) (by show w.heap.size + 1 < _; omega) _) (a := ⟨w.heap.size + 1, 1, none⟩) (by show w.heap.size + 1 < _; omega) _) (a := ⟨w.heap.size + 1, 2, none⟩) (by show w.heap.size + 1 < _; omega) _) (by omega)
  · rw [if_neg h0] at hp
    subst hp
    have e0 : ((x : Int) == 0) = false := by rw [beq_eq_false_iff_ne]; omega
    have e1 : ((x : Int) != 0) = true := by rw [bne_iff_ne]; omega
    have HX := Lib.hid hx
    obtain ⟨W2, hW2⟩ : ∃ W2, w1.alloc (.cells #[.pointer none] 54) = W2 := ⟨_, rfl⟩
    have g1 : CBlk 24 W2 (w.heap.size + 1) [.int .i64 0, .string ⟨#[]⟩, .bool false] := by rw [← hW2]; exact h1'.alloc _
    have g2 : CBlk 32 W2 (w.heap.size + 1 + 1) [.slice none 0 0] := by rw [← hW2]; exact h2'.alloc _
    have gB : Below w.heap.size w W2 := by rw [← hW2]; exact hB'.alloc hB'.size _
    obtain ⟨p0, p1, p2⟩ := g1.cells3
    have q0 := g2.cell1
    have f0 := g1.free 0
    have f1 := g1.free 1
    have f2 := g1.free 2
    have f3 := g2.free 0
    have G1 := Lib.hid g1
    have G2 := Lib.hid g2
    have GB := Lib.hid gB
    have HR : Hid (feedR ⟨n, t, g⟩ c = ((zeroS, []), x)) := Lib.hid (by unfold feedR; rw [hx, if_neg h0])
    have HW2 := Lib.hid hW2
    clear hx h0 h1' h2' hB' g1 g2 gB hW2
    gi_upto_region 2 with fail
    rw [HW2.out]
    clear HW2
    gi_wp2_with fail
    refine ⟨_, feed_results ((G1.out.store3 rfl _ _ _).other ⟨w.heap.size + 1 + 1, 0, none⟩ (by simp) _) ((((G2.out.other ⟨w.heap.size + 1, 0, none⟩ (by simp) _).other ⟨w.heap.size + 1, 1, none⟩ (by simp) _).other ⟨w.heap.size + 1, 2, none⟩ (by simp) _).set 0 (.slice none 0 0)) rfl _ _ rfl rfl rfl, ?_, ?_⟩
    · rw [HR.out]
      exact ⟨_, rfl, none, 0, rfl, fun _ => rfl, (fun a e => by cases e), (fun j hj => absurd hj (by simp))⟩
    · exact (below_store3 GB.out (Nat.le_succ _) _ _ _).setCell (p := ⟨w.heap.size + 1 + 1, 0, none⟩) (by show _ ≤ w.heap.size + 1 + 1; omega) _
end Go.Proofs.Ytfagjhadfonhdaa
