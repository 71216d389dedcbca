/-
  pattern.nodeText: the text of a node of a tree, with all that is below it.
-/
import Derived.Test.YtdnbnigebejgjaaGreatDoorHT4
namespace Go.Proofs.YtdnbnigebejgjaaGreatDoor
open Go.RowKit Go.Shelf
attribute [local go_sem] Oper.semAt_some Oper.askedIn wide_fn
/-- How a region ends: normally, with this act. -/
def Qn (C : World → Prop) (A : Act) : Exit → Act → World → Prop
  | .normal, a, w => a = A ∧ C w
  | _, _, _ => False
theorem region_any_post {F : Fence} {n : Nat} {P : Program} {Q : Exit → Act → World → Prop} {ops : Array Oper} {id : Nat} {a : Act} {w : World} {C : World → Prop} {A : Act} (h : (Code.region id ops true).wpIn F n P (Qn C A) a w) (k : ∀ w', C w' → Q .normal A w') : (Code.region id ops true).wpIn F n P Q a w :=
  wpIn_mono h (fun e a w hh => by
    cases e with
    | normal => obtain ⟨rfl, hc⟩ := hh; exact k _ hc
    | _ => exact hh.elim)
theorem infoS : (Tryz.prog.info? 9).map (fun i => (i.zero, i.size, i.bytes)) = some (some (.string ⟨#[]⟩), 1, 16) := by kernel_rfl
/-- What must lie in the program's variables. -/
def TS (w : World) : Prop := Tab w ∧ ST w ∧ 1 < w.heap.size
theorem TS.below {w w' : World} (h : TS w) (hb : Below w.heap.size w w') : TS w' := ⟨h.1.below hb h.2.2, h.2.1.below hb, Nat.lt_of_lt_of_le h.2.2 hb.size⟩
theorem stepIn_append_own {F : Fence} {n : Nat} {P : Program} (w : World) {ops : Array Oper} {o : Oper} {a : Act} {K : Act → World → Prop} {Q : Exit → Act → World → Prop} {E : Prop}
    (hg : o.guard = none) (s x : Operand) (t : TypeId) (hop : o.op = Op.call { callee := Callee.builtin Builtin.append, args := #[s, x], argTypes := #[t, t] })
    (base : Nat) (e : TypeId) (i : TypeInfo) (z : Value) (size bytes : Nat) (h1 : P.underlying t = some (.slice e)) (h2 : P.info? e = some i) (h3 : i.zero = some z) (h4 : i.size = size) (h5 : i.bytes = bytes) (h6 : z.cells.size = size) (h7 : 0 < size)
    (v : Value) (k : Nat) (xs : List Value) (hs : a.eval s = v) (hown : w.ownsRow base e size v k xs) (ad : Addr) (m c : Nat) (news : List Value) (hx : a.eval x = .slice (some ad) m c) (hn : news.length = m * size)
    (hc : ∀ j u, news[j]? = some u → w.cell? (ad.add j) = some u) (h1c : ∀ u ∈ news, u.oneCell' = true) (hm : 0 < m) (b1 : k + m ≤ maxLen) (b2 : (k + m) * bytes ≤ 140737488355328) (b3 : base ≤ w.heap.size)
    (hK : ∀ g cap w', w'.ownsRow base e size (.slice (some ⟨g, 0, none⟩) (k + m) cap) (k + m) (xs ++ news) → w.grownBy w' v.ownBlock → K (a.put o.dst (.slice (some ⟨g, 0, none⟩) (k + m) cap)) w') :
    if Region.wanted o (yielded ops a.tmps) = true then Oper.wpIn F n P o a w K Q else E := by
  have hw : Region.wanted o (yielded ops a.tmps) = true := by simp [Region.wanted, hg]
  rw [if_pos hw]
  obtain ⟨v', w', hrun, r1, r2, r3⟩ := run_append_own (P := P) w base t o.type e i z size bytes h1 h2 h3 h4 h5 h6 h7 v k xs hown ad m c news hn hc h1c b1 b2 b3
  obtain ⟨g, cap, rfl, -, -⟩ := r1.form (by omega)
  unfold Oper.wpIn
  refine ⟨?_, ?_⟩
  · simp [Oper.about, hop, resolve, Target.leads, Sem.run_pure]
  · rw [Oper.semAt_plain F _ _ (by rw [hop]; intro c hc'; cases hc')]
    simp [execOp, hop, resolve, invoke, builtin, hs, hx, hrun, Result.andThen]
    exact hK g cap w' r1 r2
/-- The texts so far, in a row of their own. -/
def NtI (g : Nat → List UInt8) (c : List Int) (W : World) (N M : Nat) (sl : Value) (nc : List Value) (j : Nat) (X : World) : Prop :=
  ∃ v, CBlk 94 X (W.heap.size + 2) [v] ∧ CBlk 23 X W.heap.size [sl] ∧ CBlk 54 X (W.heap.size + 1) nc ∧ X.ownsRow (N + 2) 9 1 v j ((c.take j).map fun k => strV (g k.toNat)) ∧ Below W.heap.size W X ∧ M ≤ X.heap.size
set_option maxHeartbeats 8000000 in
set_option maxRecDepth 100000 in
theorem nodeText_step (L : List ND) (hL : L.length < 100000) (hw : beh L L.length 0 = some L.length) (b off cap : Nat) (f : Nat)
    (ih : ∀ n i k fb W, beh L fb i = some k → L.length ≤ i + f → NdsIn W (some ⟨b, off, none⟩) L → b < W.heap.size → TS W →
      CallsIn Fence.wide n Tryz.prog 37 #[.slice (some ⟨b, off, none⟩) L.length cap, .int .i64 (i : Int)] W fun e w' => e = .returned (.string ⟨(ntT L f i).toArray⟩) ∧ Below W.heap.size W w')
    (n i k fb : Nat) (W : World) (hbe : beh L fb i = some k) (hf : L.length ≤ i + (f + 1)) (hN : NdsIn W (some ⟨b, off, none⟩) L) (hb : b < W.heap.size) (hTS : TS W) :
    CallsIn Fence.wide n Tryz.prog 37 #[.slice (some ⟨b, off, none⟩) L.length cap, .int .i64 (i : Int)] W fun e w' => e = .returned (.string ⟨(ntT L (f + 1) i).toArray⟩) ∧ Below W.heap.size W w' := by
  obtain ⟨hat, hkl, hik, hkL⟩ := beh_open hbe
  have hsnd := beh_snd hbe
  obtain ⟨nd, hnd⟩ : ∃ nd, L[i] = nd := ⟨_, rfl⟩
  have hg : L.getD i (bare 0 .empty 0) = nd := by rw [List.getD_eq_getElem?_getD, List.getElem?_eq_getElem hat]; exact hnd
  have hlenI := nt_len L (f + 1) i k fb hbe
  have hNT : ntT L (f + 1) i = if nd.kind = 1 then setT nd.set ++ signL nd.times.toNat
    else if nd.kind = 4 then [40] ++ ntT L f nd.first.toNat ++ [41] ++ signL nd.times.toNat
    else Lib.join ((kidL L i).map fun k => ntT L f k.toNat) (if nd.kind = 3 then [124] else []) := by rw [ntT, hg]
  rw [hg] at hkl hsnd
  have HIH := Lib.hid ih
  have HTS := Lib.hid hTS
  have hc := ndV_cells hN hat
  rw [hnd] at hc
  have hb1 : (i : Int) < (L.length : Int) := by omega
  have HNW := Lib.hid hN
  clear ih hg hTS hN
  refine callsIn_of_wp_marks Tryz.func37 rfl trivial ?_ rfl
  simp only [Tryz.ntmps37, List.size_toArray, List.length_cons, List.length_nil, Nat.reduceAdd, Nat.reduceSub, Array.replicate_succ, Array.replicate_zero, List.push_toArray, List.append_toArray, List.nil_append, List.cons_append]
  gi_upto_region 1 with fail
  generalize hW0 : W.alloc (.cells #[.slice (some ⟨b, off, none⟩) L.length cap] 23) = W0
  have s0 : CBlk 23 W0 W.heap.size [.slice (some ⟨b, off, none⟩) L.length cap] := by rw [← hW0]; exact CBlk.new _ W _
  have hB0 : Below W.heap.size W W0 := by rw [← hW0]; exact (Below.refl _ W).alloc (Nat.le_refl _) _
  have hz0 : W0.heap.size = W.heap.size + 1 := by rw [← hW0]; simp
  have hc0 := ndV_cells (CellsIn.below HNW.out hB0 (Nat.le_refl _)) hat
  rw [hnd] at hc0
  clear hc hW0
  obtain ⟨c0, c1, c2, c3, c4, c5, c6, c7, c8⟩ := hc0
  have t0 := s0.cell1
  gi_upto_region 2 with fail
  generalize hY : W0.alloc (.cells #[.int .i64 nd.kind, .int .i64 nd.times, .int .u64 (nd.set.a.toNat : Int), .int .u64 (nd.set.b.toNat : Int), .int .u64 (nd.set.c.toNat : Int), .int .u64 (nd.set.d.toNat : Int), .int .i64 nd.group, .int .i64 nd.first, .int .i64 nd.next] 54) = Y
  have n1 : CBlk 54 Y (W.heap.size + 1) (ndC nd) := by rw [← hY, ← hz0]; exact CBlk.new _ W0 _
  have s1 : CBlk 23 Y W.heap.size [.slice (some ⟨b, off, none⟩) L.length cap] := by rw [← hY]; exact s0.alloc _
  have hBY : Below W.heap.size W Y := by rw [← hY]; exact hB0.alloc (by omega) _
  have hzY : Y.heap.size = W.heap.size + 2 := by rw [← hY]; simp; omega
  have HTY := Lib.hid (HTS.out.below hBY)
  clear hY c0 c1 c2 c3 c4 c5 c6 c7 c8 s0 t0 hB0 hz0
  have d0 : Y.cell? ⟨W.heap.size + 1, 0, none⟩ = some (.int .i64 nd.kind) := n1.cell 0 (by show 0 < 9; omega)
  by_cases hk1 : nd.kind = 1
  · obtain ⟨_, _, _, ht0, ht3⟩ := snd1 hk1 hsnd
    obtain ⟨t, ht⟩ := Int.eq_ofNat_of_zero_le ht0
    have e1 : (nd.kind == 1) = true := by rw [hk1]; rfl
    rw [if_pos hk1, ht, Int.toNat_natCast] at hNT
    rw [hNT] at hlenI
    have HST := Lib.hid fun w (h : TS w) => setText_any nd.set w h.1 h.2.2
    obtain ⟨A, hA⟩ : ∃ A, setT nd.set = A := ⟨_, rfl⟩
    obtain ⟨S, hS⟩ : ∃ S, signL t = S := ⟨_, rfl⟩
    rw [hA] at hNT HST hlenI
    rw [hS] at hNT hlenI
    unfold WSet.v at HST
    have ht4 : t < 4 := by omega
    have b2 : (t : Int) < 4 := by omega
    have HSG : Hid (∀ w, TS w → w.cell? ⟨0, t, none⟩ = some (.string ⟨S.toArray⟩)) := Lib.hid fun w h => hS ▸ h.2.1 t ht4
    have k4 : ∀ w : World, (Op.stringOp .add ⟨A.toArray⟩ ⟨S.toArray⟩).run Tryz.prog w = .ok (.string ⟨(A ++ S).toArray⟩) w := fun w => jstr_add _ _ (by rw [List.length_append] at hlenI; omega)
    have HRS : Hid (ntT L (f + 1) i = A ++ S) := Lib.hid hNT
    have nY := n1.drew
    have d1 : Y.drew.cell? ⟨W.heap.size + 1, 1, none⟩ = some (.int .i64 (t : Int)) := ht ▸ nY.cell 1 (by show 1 < 9; omega)
    have d2 : Y.drew.cell? ⟨W.heap.size + 1, 2, none⟩ = some (.int .u64 (nd.set.a.toNat : Int)) := nY.cell 2 (by show 2 < 9; omega)
    have d3 : Y.drew.cell? ⟨W.heap.size + 1, 3, none⟩ = some (.int .u64 (nd.set.b.toNat : Int)) := nY.cell 3 (by show 3 < 9; omega)
    have d4 : Y.drew.cell? ⟨W.heap.size + 1, 4, none⟩ = some (.int .u64 (nd.set.c.toNat : Int)) := nY.cell 4 (by show 4 < 9; omega)
    have d5 : Y.drew.cell? ⟨W.heap.size + 1, 5, none⟩ = some (.int .u64 (nd.set.d.toNat : Int)) := nY.cell 5 (by show 5 < 9; omega)
    have hTD : TS Y.drew := HTY.out.below (Below.refl _ Y).drew
    have HTD := Lib.hid hTD
    have g1 := HSG.out _ hTD
    have hBD : Below W.heap.size W Y.drew := hBY.drew
    clear hNT hA hS hlenI hsnd hkl hTD ht0 ht3 hk1
    gi_wp2_with fail
    apply region_any_post (C := Below W.heap.size W)
    case h =>
      gi_region_with (refine ⟨(fun h => by cases h), (callsIn_wide.2 (HST.out _ HTD.out)).mono ?_⟩; rintro e w5 ⟨rfl, hb5⟩; have n5 := nY.below hb5 nY.lt; have f1 : w5.cell? ⟨W.heap.size + 1, 1, none⟩ = some (.int .i64 (t : Int)) := ht ▸ n5.cell 1 (by show 1 < 9; omega); have g5 := HSG.out _ (HTD.out.below hb5); have hB5 := hBD.trans (hb5.mono hBD.size))
      all_goals exact ⟨rfl, hB5⟩
    case k =>
      intro Z hB5
      gi_wp2_with fail
      exact ⟨_, results_tmp rfl _ _ _, by rw [HRS.out]; rfl, hB5⟩
  · have e1 : (nd.kind == 1) = false := beq_eq_false_iff_ne.2 hk1
    rw [if_neg hk1] at hNT
    by_cases hk4 : nd.kind = 4
    · obtain ⟨hc, _, ht0, ht3⟩ := snd4 hk4 hsnd
      obtain ⟨t, ht⟩ := Int.eq_ofNat_of_zero_le ht0
      obtain ⟨f', rfl, hfi, hlt2, k2, hb2, hk2⟩ := kl_open hkl hc
      have e4 : (nd.kind == 4) = true := by rw [hk4]; rfl
      rw [if_pos hk4, ht, hfi, Int.toNat_natCast, Int.toNat_natCast] at hNT
      rw [hNT] at hlenI
      have HCH := Lib.hid fun n w h1 h2 h3 => HIH.out n (i + 1) k2 f' w hb2 (by omega) h1 h2 h3
      obtain ⟨A, hA⟩ : ∃ A, ntT L f (i + 1) = A := ⟨_, rfl⟩
      obtain ⟨S, hS⟩ : ∃ S, signL t = S := ⟨_, rfl⟩
      rw [hA] at hNT HCH hlenI
      rw [hS] at hNT hlenI
      have ht4 : t < 4 := by omega
      have b2 : (t : Int) < 4 := by omega
      have HSG : Hid (∀ w, TS w → w.cell? ⟨0, t, none⟩ = some (.string ⟨S.toArray⟩)) := Lib.hid fun w h => hS ▸ h.2.1 t ht4
      obtain ⟨A1, hA1⟩ : ∃ A1, [40] ++ A = A1 := ⟨_, rfl⟩
      obtain ⟨A2, hA2⟩ : ∃ A2, A1 ++ [41] = A2 := ⟨_, rfl⟩
      rw [hA1, hA2] at hNT hlenI
      rw [List.length_append] at hlenI
      have hl2 : A2.length = A1.length + 1 := by rw [← hA2, List.length_append]; rfl
      have hl1 : A1.length = 1 + A.length := by rw [← hA1, List.length_append]; rfl
      have k2' : ∀ w : World, (Op.stringOp .add ⟨#[40]⟩ ⟨A.toArray⟩).run Tryz.prog w = .ok (.string ⟨A1.toArray⟩) w := fun w => hA1 ▸ jstr_add [40] A (by simp only [List.length_cons, List.length_nil]; omega)
      have k3 : ∀ w : World, (Op.stringOp .add ⟨A1.toArray⟩ ⟨#[41]⟩).run Tryz.prog w = .ok (.string ⟨A2.toArray⟩) w := fun w => hA2 ▸ jstr_add A1 [41] (by simp only [List.length_cons, List.length_nil]; omega)
      have k4 : ∀ w : World, (Op.stringOp .add ⟨A2.toArray⟩ ⟨S.toArray⟩).run Tryz.prog w = .ok (.string ⟨(A2 ++ S).toArray⟩) w := fun w => jstr_add _ _ (by omega)
      have HRS : Hid (ntT L (f + 1) i = A2 ++ S) := Lib.hid hNT
      have nY := n1.drew
      have sY := s1.drew
      have t0 := sY.cell1
      have d1 : Y.drew.cell? ⟨W.heap.size + 1, 1, none⟩ = some (.int .i64 (t : Int)) := ht ▸ nY.cell 1 (by show 1 < 9; omega)
      have d7 : Y.drew.cell? ⟨W.heap.size + 1, 7, none⟩ = some (.int .i64 ((i + 1 : Nat) : Int)) := hfi ▸ nY.cell 7 (by show 7 < 9; omega)
      have hTD : TS Y.drew := HTY.out.below (Below.refl _ Y).drew
      have HTD := Lib.hid hTD
      have g1 := HSG.out _ hTD
      have hBD : Below W.heap.size W Y.drew := hBY.drew
      have HND := Lib.hid (CellsIn.below HNW.out hBD (Nat.le_refl _) : NdsIn Y.drew (some ⟨b, off, none⟩) L)
      have hbD : b < Y.drew.heap.size := by have := hBD.size; omega
      clear hNT hA hS hlenI hsnd hTD ht0 ht3 hk1 hc hA1 hA2 hl1 hl2
      gi_wp2_with fail
      apply region_any_post (C := Below W.heap.size W)
      case h =>
        gi_region_with (refine ⟨(fun h => by cases h), (HCH.out _ _ HND.out hbD HTD.out).mono ?_⟩; rintro e w5 ⟨rfl, hb5⟩; have n5 := nY.below hb5 nY.lt; have f1 : w5.cell? ⟨W.heap.size + 1, 1, none⟩ = some (.int .i64 (t : Int)) := ht ▸ n5.cell 1 (by show 1 < 9; omega); have g5 := HSG.out _ (HTD.out.below hb5); have hB5 := hBD.trans (hb5.mono hBD.size))
        all_goals exact ⟨rfl, hB5⟩
      case k =>
        intro Z hB5
        gi_wp2_with fail
        exact ⟨_, results_tmp rfl _ _ _, by rw [HRS.out]; rfl, hB5⟩
    · have e4 : (nd.kind == 4) = false := beq_eq_false_iff_ne.2 hk4
      rw [if_neg hk4] at hNT
      gi_upto_region 8 with fail
      obtain ⟨i0, hi, hz0, hz1, hz2⟩ := info_parts infoS
      have hV0 : CBlk 94 (Y.alloc (.cells #[.slice none 0 0] 94)) (W.heap.size + 2) [.slice none 0 0] := by rw [← hzY]; exact CBlk.new _ Y _
      generalize hVV : Y.alloc (.cells #[.slice none 0 0] 94) = V at hV0 ⊢
      have n2 : CBlk 54 V (W.heap.size + 1) (ndC nd) := by rw [← hVV]; exact n1.alloc _
      have s2 : CBlk 23 V W.heap.size [.slice (some ⟨b, off, none⟩) L.length cap] := by rw [← hVV]; exact s1.alloc _
      have hBV : Below W.heap.size W V := by rw [← hVV]; exact hBY.alloc (by omega) _
      have hzV : V.heap.size = W.heap.size + 3 := by rw [← hVV]; simp; omega
      clear hVV n1 s1 d0 HTY hBY hzY
      have t0 := s2.cell1
      gi_wp2_with fail
      refine ⟨(fun h => by cases h), (callsIn_wide.2 (children_any _ _ _ _ _)).mono ?_⟩
      rintro e w' ⟨rfl, rfl⟩
      generalize hX3 : (V.alloc (.cells #[.slice (some ⟨b, off, none⟩) L.length cap] 23)).alloc (.cells #[.int .i64 (i : Int)] 3) = V3
      have v3 := (hV0.alloc (.cells #[.slice (some ⟨b, off, none⟩) L.length cap] 23)).alloc (.cells #[.int .i64 (i : Int)] 3)
      have n3 := (n2.alloc (.cells #[.slice (some ⟨b, off, none⟩) L.length cap] 23)).alloc (.cells #[.int .i64 (i : Int)] 3)
      have s3 := (s2.alloc (.cells #[.slice (some ⟨b, off, none⟩) L.length cap] 23)).alloc (.cells #[.int .i64 (i : Int)] 3)
      have g4 : CBlk 23 V3 V.heap.size [.slice (some ⟨b, off, none⟩) L.length cap] := by rw [← hX3]; exact (CBlk.new _ V _).alloc _
      have g5 : CBlk 3 V3 (V.heap.size + 1) [.int .i64 (i : Int)] := by
        rw [← hX3]
        have := CBlk.new 3 (V.alloc (.cells #[.slice (some ⟨b, off, none⟩) L.length cap] 23)) [.int .i64 (i : Int)]
        rwa [World.size_alloc] at this
      rw [hX3] at v3 n3 s3
      rw [hzV] at g4 g5
      have hB3 : Below W.heap.size W V3 := by rw [← hX3]; exact (hBV.alloc (by omega) _).alloc (by simp; omega) _
      have hz3 : V3.heap.size = W.heap.size + 5 := by rw [← hX3]; simp; omega
      have hN3 : NdsIn V3 (some ⟨b, off, none⟩) L := CellsIn.below HNW.out hB3 (Nat.le_refl _)
      have HB3 := Lib.hid hB3
      have HX3 := Lib.hid (And.intro v3 (And.intro n3 s3))
      have hkid : kidL L i = chn L (L.length + 1) nd.first := by unfold kidL; rw [List.getD_eq_getElem?_getD, List.getElem?_eq_getElem hat]; show chn L (L.length + 1) L[i].first = _; rw [hnd]
      obtain ⟨c, hcc⟩ : ∃ c, chn L (L.length + 1) nd.first = c := ⟨_, rfl⟩
      have hkc : ∀ j, j < c.length → ((i + 1 : Nat) : Int) ≤ c.getD j (-1) ∧ c.getD j (-1) < (L.length : Int) ∧ j < L.length + 1 := by
        rw [← hcc]; exact kl_chn (L.length + 1) _ _ _ _ _ hkl (by omega) (by omega)
      have hcl : c.length ≤ L.length + 2 := by rw [← hcc]; exact chn_len _ _ _
      rw [hkid, hcc] at hNT
      have HKC := Lib.hid hkc
      have HTREE := Lib.hid (beh_all hw)
      have HNT : Hid (ntT L (f + 1) i = Lib.join (c.map fun k => ntT L f k.toNat) (if nd.kind = 3 then [124] else [])) := Lib.hid hNT
      clear hX3 hV0 n2 s2 t0 hBV hkc hNT hkid v3 n3 s3 hw
      gi_wp2_with fail
      refine rangeL (st := false) (fid := 66) (lb := #[.pointer (some ⟨W.heap.size + 3, 0, none⟩), .pointer (some ⟨W.heap.size + 3 + 1, 0, none⟩)]) (E := intE c) (Bad := BadK L (L.length + 1) c) (ks := fun k => k = b ∨ k = W.heap.size + 3 ∨ k = W.heap.size + 3 + 1)
        rfl (enters_of Tryz.func66 (by kernel_rfl) rfl) (fun j hj => by simp [intE]) ?iter (fun k hk => by omega)
        (NtI (ntT L f) c W V3.heap.size V3.heap.size (.slice (some ⟨b, off, none⟩) L.length cap) (ndC nd)) (fun _ => False) ?hI ?hIx ?h0 ?round ?done ?stop
      case iter =>
        have := children_iter L (L.length + 1) i hat b off cap (W.heap.size + 3) (W.heap.size + 3 + 1) (fun k => k = b ∨ k = W.heap.size + 3 ∨ k = W.heap.size + 3 + 1) V3 hN3 g4 g5 (.inl rfl) (.inr (.inl rfl)) (.inr (.inr rfl))
        rw [hnd, hcc] at this
        exact this
      case hI =>
        rintro j X X' row ⟨v, y0, y1, y2, y3, y4, y5⟩ hg hr
        have hr' : ∀ r, row = some r → V3.heap.size ≤ r ∧ r < V3.heap.size + 2 := fun r e => ⟨(hr r e).1, (hr r e).2 rfl⟩
        refine ⟨v, y0.kept hg (fun e => by have := hr' _ e.symm; omega), y1.kept hg (fun e => by have := hr' _ e.symm; omega), y2.kept hg (fun e => by have := hr' _ e.symm; omega), y3.kept hg ?_, y4.grown hg (by omega) (fun r e => by have := hr' r e; omega), Nat.le_trans y5 hg.size⟩
        cases hv : v.ownBlock with
        | none => exact .inl rfl
        | some r => exact .inr (fun e => by have h1 := (y3.lt r hv).1; have h2 := hr' r e.symm; omega)
      case hIx => exact fun X X' row h => h.elim
      case h0 => exact ⟨_, HX3.out.1, HX3.out.2.2, HX3.out.2.1, World.ownsRow_nil _ _ _ _, HB3.out, Nat.le_refl _⟩
      case stop => exact fun X h => h.elim
      case done =>
        rintro X ⟨v, y0, y1, y2, y3, y4, y5⟩ hz hD
        rw [show (intE c).length = c.length from List.length_map _, List.take_length] at y3
        have hmm : c.map (fun k => strV (ntT L f k.toNat)) = (c.map fun k => ntT L f k.toNat).map strV := by rw [List.map_map]; rfl
        obtain ⟨xs, hxs⟩ : ∃ xs, (c.map fun k => ntT L f k.toNat) = xs := ⟨_, rfl⟩
        have hxl : xs.length = c.length := by rw [← hxs, List.length_map]
        rw [hmm, hxs, ← hxl] at y3
        obtain ⟨q, hq⟩ : ∃ q, decide (nd.kind = 3) = q := ⟨_, rfl⟩
        have e3 : (nd.kind == 3) = q := by rw [← hq]; rfl
        have hres : ntT L (f + 1) i = Lib.join xs (if q = true then [124] else []) := by rw [HNT.out, hxs, ← hq]; simp only [decide_eq_true_eq]
        rw [hres] at hlenI
        have HRES := Lib.hid hres
        have d0 : X.cell? ⟨W.heap.size + 1, 0, none⟩ = some (.int .i64 nd.kind) := y2.cell 0 (by show 0 < 9; omega)
        have d1 := y0.cell1
        have HD := Lib.hid hD
        have Y4 := Lib.hid y4
        cases q with
        | true =>
          have HJ := Lib.hid (joinRow_any xs [124] y3 (by rw [if_pos rfl] at hlenI; omega) (by omega))
          clear g4 g5 hD y0 y1 y2 y3 y4 hlenI hres hmm hxs hq hkl hsnd
          gi_wp2_with fail
          refine ⟨(fun h => by cases h), (callsIn_wide.2 HJ.out).mono ?_⟩
          rintro e w8 ⟨rfl, hb8⟩
          have hD8 := (hb8.block V3.heap.size (by omega)).trans HD.out
          rw [hz3] at hD8
          have hz8 := hb8.size
          have Y8 := Y4.out.trans (hb8.mono (by omega))
          gi_wp2_with fail
          have hgp := grownBy_putObj' w8 (W.heap.size + 5) (.deferred none)
          refine ⟨by simp, .inl ⟨_, _, rfl, run_takeDeferred hD8, ?_⟩⟩
          exact ⟨_, results_tmp rfl _ _ _, by rw [HRES.out]; rfl, Y8.grown hgp (by omega) (fun r hr => by injection hr; omega)⟩
        | false =>
          have HJ := Lib.hid (joinRow_any xs [] y3 (by rw [if_neg (by simp)] at hlenI; omega) (by omega))
          clear g4 g5 hD y0 y1 y2 y3 y4 hlenI hres hmm hxs hq hkl hsnd
          gi_wp2_with fail
          refine ⟨(fun h => by cases h), (callsIn_wide.2 HJ.out).mono ?_⟩
          rintro e w8 ⟨rfl, hb8⟩
          have hD8 := (hb8.block V3.heap.size (by omega)).trans HD.out
          rw [hz3] at hD8
          have hz8 := hb8.size
          have Y8 := Y4.out.trans (hb8.mono (by omega))
          gi_wp2_with fail
          have hgp := grownBy_putObj' w8 (W.heap.size + 5) (.deferred none)
          refine ⟨by simp, .inl ⟨_, _, rfl, run_takeDeferred hD8, ?_⟩⟩
          exact ⟨_, results_tmp rfl _ _ _, by rw [HRES.out]; rfl, Y8.grown hgp (by omega) (fun r hr => by injection hr; omega)⟩
      case round =>
        rintro j hj m X ⟨v, y0, y1, y2, y3, y4, y5⟩ hz
        have hjc : j < c.length := by rw [show (intE c).length = c.length from List.length_map _] at hj; exact hj
        obtain ⟨kc1, kc2, kc3⟩ := HKC.out j hjc
        obtain ⟨x0, hx0⟩ := Int.eq_ofNat_of_zero_le (by omega : 0 ≤ c.getD j (-1))
        have hbad : ¬ BadK L (L.length + 1) c j := by
          unfold BadK
          exact fun h => h ⟨by omega, kc2, kc3⟩
        rw [intE_at, hx0]
        have htk : (c.take (j + 1)).map (fun k => strV (ntT L f k.toNat)) = (c.take j).map (fun k => strV (ntT L f k.toNat)) ++ [strV (ntT L f x0)] := by
          have h9 : c[j] = (x0 : Int) := by rw [← hx0, List.getD_eq_getElem?_getD, List.getElem?_eq_getElem hjc]; rfl
          rw [List.take_add_one, List.getElem?_eq_getElem hjc, List.map_append, h9]
          rfl
        rw [hx0] at kc1 kc2
        obtain ⟨k2, hk2, _, _⟩ := HTREE.out x0 (Nat.zero_le _) (by omega)
        have HCH := Lib.hid fun n w h1 h2 h3 => HIH.out n x0 k2 L.length w hk2 (by omega) h1 h2 h3
        obtain ⟨x, hx⟩ : ∃ x, ntT L f x0 = x := ⟨_, rfl⟩
        rw [hx] at htk HCH
        have HTK := Lib.hid htk
        have HBAD := Lib.hid hbad
        have HV3 := Lib.hid hz
        obtain ⟨ov, oc, rfl⟩ := own_slice y3
        have Y0 := Lib.hid y0
        have Y1 := Lib.hid y1
        have Y2 := Lib.hid y2
        have Y3 := Lib.hid y3
        have Y4 := Lib.hid y4
        clear g4 g5 htk hbad hx hk2 y0 y1 y2 y3 y4 hx0 kc1 kc2 kc3 hj hkl hsnd
        gi_wp2
        refine ⟨trivial, ?_⟩
        intro X2 hg2
        have hne : ∀ i, i < V3.heap.size → some i ≠ some (V3.heap.size + 1) := fun i hi e => by injection e; omega
        have hzz := hg2.size
        have HV := Lib.hid (Y0.out.kept hg2 (hne _ (by omega))).drew
        have HV1 := Lib.hid (Y1.out.kept hg2 (hne _ (by omega))).drew
        have HV2 := Lib.hid (Y2.out.kept hg2 (hne _ (by omega))).drew
        have hrow2 := Y3.out.kept hg2 (by
          cases hv : (Value.slice ov j oc).ownBlock with
          | none => exact .inl rfl
          | some r => exact .inr (fun e => by have h1 := (Y3.out.lt r hv).1; injection e; omega))
        have HR2 := Lib.hid hrow2
        have hB2 : Below W.heap.size W X2.drew := (Y4.out.grown hg2 (by omega) (fun r e => by injection e; omega)).drew
        have HB2 := Lib.hid hB2
        have HTD := Lib.hid (HTS.out.below hB2)
        have HND := Lib.hid (CellsIn.below HNW.out hB2 (Nat.le_refl _) : NdsIn X2.drew (some ⟨b, off, none⟩) L)
        have hbD : b < X2.drew.heap.size := by have := hB2.size; omega
        have t0 := HV.out.cell1
        have t1 := HV1.out.cell1
        have hROW : ∀ w5, Below X2.drew.heap.size X2.drew w5 → (w5.alloc (.cells #[strV x] 9)).ownsRow (V3.heap.size + 2) 9 1 (.slice ov j oc) j ((c.take j).map fun k => strV (ntT L f k.toNat)) := fun w5 hb5 =>
          ((show X2.drew.ownsRow (V3.heap.size + 2) 9 1 (.slice ov j oc) j ((c.take j).map fun k => strV (ntT L f k.toNat)) from HR2.out).kept (jgbe (jgrefl X2.drew none) hb5) (by
            cases (Value.slice ov j oc).ownBlock with
            | none => exact .inl rfl
            | some r => exact .inr (fun e => by cases e))).alloc _
        have HROW := Lib.hid hROW
        have HFIN : Hid (∀ (w5 : World) (g2 cc : Nat) (w6 : World), Below X2.drew.heap.size X2.drew w5 → (w5.alloc (.cells #[strV x] 9)).grownBy w6 (Value.slice ov j oc).ownBlock →
            w6.ownsRow (V3.heap.size + 2) 9 1 (.slice (some ⟨g2, 0, none⟩) (j + 1) cc) (j + 1) ((c.take j).map (fun k => strV (ntT L f k.toNat)) ++ [strV x]) →
            w6.cell? ⟨W.heap.size + 2, 0, none⟩ = some (.slice ov j oc) ∧ w6.frozen? ⟨W.heap.size + 2, 0, none⟩ = false ∧
              (RecK V3.heap.size X2 (w6.setCell ⟨W.heap.size + 2, 0, none⟩ (.slice (some ⟨g2, 0, none⟩) (j + 1) cc)) ∧ KeepsAt (fun k => k = b ∨ k = W.heap.size + 3 ∨ k = W.heap.size + 3 + 1) X2 (w6.setCell ⟨W.heap.size + 2, 0, none⟩ (.slice (some ⟨g2, 0, none⟩) (j + 1) cc)) ∧ X2.heap.size ≤ (w6.setCell ⟨W.heap.size + 2, 0, none⟩ (.slice (some ⟨g2, 0, none⟩) (j + 1) cc)).heap.size ∧ ¬ BadK L (L.length + 1) c j ∧
                NtI (ntT L f) c W V3.heap.size V3.heap.size (.slice (some ⟨b, off, none⟩) L.length cap) (ndC nd) (j + 1) (w6.setCell ⟨W.heap.size + 2, 0, none⟩ (.slice (some ⟨g2, 0, none⟩) (j + 1) cc)))) := Lib.hid fun w5 g2 cc w6 hb5 hgrow hown => by
          have hlow : ∀ r, (Value.slice ov j oc).ownBlock = some r → V3.heap.size + 2 ≤ r := fun r hr => (HR2.out.lt r hr).1
          have hnb : ∀ q, q < V3.heap.size + 2 → some q ≠ (Value.slice ov j oc).ownBlock := fun q hq e => by have := hlow q e.symm; omega
          have hs5 := hb5.size
          have hs5' : X2.heap.size ≤ w5.heap.size := hs5
          have hs6 := hgrow.size
          rw [World.size_alloc] at hs6
          have a0 := ((HV.out.below hb5 HV.out.lt).alloc (.cells #[strV x] 9)).kept hgrow (hnb _ (by omega))
          have a1 := ((HV1.out.below hb5 HV1.out.lt).alloc (.cells #[strV x] 9)).kept hgrow (hnb _ (by omega))
          have a2 := ((HV2.out.below hb5 HV2.out.lt).alloc (.cells #[strV x] 9)).kept hgrow (hnb _ (by omega))
          have hBw : Below W.heap.size W w6 := ((HB2.out.trans (hb5.mono (by have := HB2.out.size; omega))).alloc (by omega) _).grown hgrow (by rw [World.size_alloc]; omega) (fun r hr => by have := hlow r hr; omega)
          have hK : KeepsAt (fun k => k < V3.heap.size + 2 ∧ k ≠ W.heap.size + 2) X2 (w6.setCell ⟨W.heap.size + 2, 0, none⟩ (.slice (some ⟨g2, 0, none⟩) (j + 1) cc)) := by
            have h1 : KeepsAt (fun k => k < V3.heap.size + 2 ∧ k ≠ W.heap.size + 2) X2 w5 := fun k hk => hb5.block k (by show k < X2.heap.size; omega)
            have h2 : KeepsAt (fun k => k < V3.heap.size + 2 ∧ k ≠ W.heap.size + 2) w5 (w5.alloc (.cells #[strV x] 9)) := KeepsAt.below ((Below.refl _ w5).alloc (Nat.le_refl _) _) (fun k hk => by omega)
            have h3 : KeepsAt (fun k => k < V3.heap.size + 2 ∧ k ≠ W.heap.size + 2) (w5.alloc (.cells #[strV x] 9)) w6 := keepsAt_grown hgrow (fun k hk => ⟨by rw [World.size_alloc]; omega, hnb k hk.1⟩)
            exact ((h1.trans h2).trans h3).setCell (p := ⟨W.heap.size + 2, 0, none⟩) (by show ¬ (W.heap.size + 2 < V3.heap.size + 2 ∧ W.heap.size + 2 ≠ W.heap.size + 2); omega) _
          refine ⟨a0.cell1, a0.free 0, ⟨hK _ (by omega), hK _ (by omega)⟩, hK.mono' (fun q hq => by omega), by rw [World.size_setCell]; omega, HBAD.out, _, a0.set 0 _, a1.other ⟨W.heap.size + 2, 0, none⟩ (by show W.heap.size + 2 ≠ _; omega) _, a2.other ⟨W.heap.size + 2, 0, none⟩ (by show W.heap.size + 2 ≠ _; omega) _, ?_, hBw.setCell (p := ⟨W.heap.size + 2, 0, none⟩) (by show W.heap.size ≤ W.heap.size + 2; omega) _, by rw [World.size_setCell]; omega⟩
          rw [HTK.out]
          exact hown.kept (jgset w6 (W.heap.size + 2) 0 _) (.inr (fun e => by have := (hown.lt _ e).1; omega))
        have HDZ : Hid (V3.heap.size + 2 ≤ X2.drew.heap.size) := Lib.hid (by show V3.heap.size + 2 ≤ X2.heap.size; omega)
        clear hrow2 hB2 hg2 hne hROW
        gi_wp2_with fail
        refine region_round rfl (by kernel_rfl) (by kernel_rfl) ?_
        change wpAnyIn _ _ _ _ _ _ _ _ _ (World.drew _)
        refine wpAnyIn_ready (rs := [0, 1, 2]) (by kernel_rfl) (by simp) ?_
        refine (AllReadyIn.cons rfl (fun K hK => ?_) (AllReadyIn.cons rfl (fun K hK => ?_) (AllReadyIn.cons rfl (fun K hK => ?_) AllReadyIn.nil)))
        · go_simp
          refine hK _ _ ?_
          clear hK K
          try simp only [Act.put, List.getElem_toArray, List.getElem_cons_succ, List.getElem_cons_zero, List.setIfInBounds_toArray, List.set_cons_zero, List.set_cons_succ]
          refine wpAnyIn_ready (rs := [1, 2]) (by kernel_rfl) (by simp) ?_
          refine (AllReadyIn.cons rfl (fun K hK => ?_) (AllReadyIn.cons rfl (fun K hK => ?_) AllReadyIn.nil))
          · go_simp
            refine hK _ _ ?_
            clear hK K
            try simp only [Act.put, List.getElem_toArray, List.getElem_cons_succ, List.getElem_cons_zero, List.setIfInBounds_toArray, List.set_cons_zero, List.set_cons_succ]
            refine wpAnyIn_ready (rs := [2]) (by kernel_rfl) (by simp) ?_
            refine (AllReadyIn.cons rfl (fun K hK => ?_) AllReadyIn.nil)
            go_simp
            refine hK _ _ ?_
            clear hK K
            try simp only [Act.put, List.getElem_toArray, List.getElem_cons_succ, List.getElem_cons_zero, List.setIfInBounds_toArray, List.set_cons_zero, List.set_cons_succ]
            refine wpAnyIn_ready (rs := [3]) (by kernel_rfl) (by simp) ?_
            refine (AllReadyIn.cons rfl (fun K hK => ?_) AllReadyIn.nil)
            go_simp
            refine ⟨(fun h => by cases h), (HCH.out _ _ HND.out hbD HTD.out).mono ?_⟩
            rintro e w5 ⟨rfl, hb5⟩
            have HB5 := Lib.hid hb5
            have c5 := (HV.out.below hb5 HV.out.lt).cell1
            have c6 := ((HV.out.below hb5 HV.out.lt).alloc (.cells #[.string ⟨x.toArray⟩] 9)).cell1
            clear hb5
            dsimp only
            refine hK _ _ ?_
            clear hK K
            try simp only [Act.put, List.getElem_toArray, List.getElem_cons_succ, List.getElem_cons_zero, List.setIfInBounds_toArray, List.set_cons_zero, List.set_cons_succ]
            refine wpAnyIn_ready (rs := [4]) (by kernel_rfl) (by simp) ?_
            refine (AllReadyIn.cons rfl (fun K hK => ?_) AllReadyIn.nil)
            go_simp
            refine hK _ _ ?_
            clear hK K
            try simp only [Act.put, List.getElem_toArray, List.getElem_cons_succ, List.getElem_cons_zero, List.setIfInBounds_toArray, List.set_cons_zero, List.set_cons_succ]
            refine wpAnyIn_ready (rs := [5]) (by kernel_rfl) (by simp) ?_
            refine (AllReadyIn.cons rfl (fun K hK => ?_) AllReadyIn.nil)
            refine stepIn_append_own _ rfl _ _ 94 rfl (V3.heap.size + 2) 9 i0 (.string ⟨#[]⟩) 1 16 Tryz.underlying94 hi hz0 hz1 hz2 rfl (by decide) _ _ _ rfl (HROW.out w5 HB5.out) ⟨w5.heap.size, 0, none⟩ 1 1 [strV x] rfl rfl (cell_one_new _ _ _) (by simp [Value.oneCell', strV]) (by decide) (by unfold maxLen; omega) (by omega) (by rw [World.size_alloc]; have := HB5.out.size; have := HDZ.out; omega) ?_
            intro g2 cc w6 hown hgrow
            have HFI := Lib.hid (HFIN.out w5 g2 cc w6 HB5.out hgrow hown)
            have k3 := HFI.out.1
            have k4 := HFI.out.2.1
            clear hown hgrow
            refine hK _ _ ?_
            clear hK K
            try simp only [Act.put, List.getElem_toArray, List.getElem_cons_succ, List.getElem_cons_zero, List.setIfInBounds_toArray, List.set_cons_zero, List.set_cons_succ]
            refine wpAnyIn_ready (rs := [6]) (by kernel_rfl) (by simp) ?_
            refine (AllReadyIn.cons rfl (fun K hK => ?_) AllReadyIn.nil)
            go_simp
            refine hK _ _ ?_
            clear hK K
            try simp only [Act.put, List.getElem_toArray, List.getElem_cons_succ, List.getElem_cons_zero, List.setIfInBounds_toArray, List.set_cons_zero, List.set_cons_succ]
            refine wpAnyIn_done (by kernel_rfl) ?_ _
            gi_wp2
            exact HFI.out.2.2
          · go_simp
            refine hK _ _ ?_
            clear hK K
            try simp only [Act.put, List.getElem_toArray, List.getElem_cons_succ, List.getElem_cons_zero, List.setIfInBounds_toArray, List.set_cons_zero, List.set_cons_succ]
            refine wpAnyIn_ready (rs := [1]) (by kernel_rfl) (by simp) ?_
            refine (AllReadyIn.cons rfl (fun K hK => ?_) AllReadyIn.nil)
            go_simp
            refine hK _ _ ?_
            clear hK K
            try simp only [Act.put, List.getElem_toArray, List.getElem_cons_succ, List.getElem_cons_zero, List.setIfInBounds_toArray, List.set_cons_zero, List.set_cons_succ]
            refine wpAnyIn_ready (rs := [3]) (by kernel_rfl) (by simp) ?_
            refine (AllReadyIn.cons rfl (fun K hK => ?_) AllReadyIn.nil)
            go_simp
            refine ⟨(fun h => by cases h), (HCH.out _ _ HND.out hbD HTD.out).mono ?_⟩
            rintro e w5 ⟨rfl, hb5⟩
            have HB5 := Lib.hid hb5
            have c5 := (HV.out.below hb5 HV.out.lt).cell1
            have c6 := ((HV.out.below hb5 HV.out.lt).alloc (.cells #[.string ⟨x.toArray⟩] 9)).cell1
            clear hb5
            dsimp only
            refine hK _ _ ?_
            clear hK K
            try simp only [Act.put, List.getElem_toArray, List.getElem_cons_succ, List.getElem_cons_zero, List.setIfInBounds_toArray, List.set_cons_zero, List.set_cons_succ]
            refine wpAnyIn_ready (rs := [4]) (by kernel_rfl) (by simp) ?_
            refine (AllReadyIn.cons rfl (fun K hK => ?_) AllReadyIn.nil)
            go_simp
            refine hK _ _ ?_
            clear hK K
            try simp only [Act.put, List.getElem_toArray, List.getElem_cons_succ, List.getElem_cons_zero, List.setIfInBounds_toArray, List.set_cons_zero, List.set_cons_succ]
            refine wpAnyIn_ready (rs := [5]) (by kernel_rfl) (by simp) ?_
            refine (AllReadyIn.cons rfl (fun K hK => ?_) AllReadyIn.nil)
            refine stepIn_append_own _ rfl _ _ 94 rfl (V3.heap.size + 2) 9 i0 (.string ⟨#[]⟩) 1 16 Tryz.underlying94 hi hz0 hz1 hz2 rfl (by decide) _ _ _ rfl (HROW.out w5 HB5.out) ⟨w5.heap.size, 0, none⟩ 1 1 [strV x] rfl rfl (cell_one_new _ _ _) (by simp [Value.oneCell', strV]) (by decide) (by unfold maxLen; omega) (by omega) (by rw [World.size_alloc]; have := HB5.out.size; have := HDZ.out; omega) ?_
            intro g2 cc w6 hown hgrow
            have HFI := Lib.hid (HFIN.out w5 g2 cc w6 HB5.out hgrow hown)
            have k3 := HFI.out.1
            have k4 := HFI.out.2.1
            clear hown hgrow
            refine hK _ _ ?_
            clear hK K
            try simp only [Act.put, List.getElem_toArray, List.getElem_cons_succ, List.getElem_cons_zero, List.setIfInBounds_toArray, List.set_cons_zero, List.set_cons_succ]
            refine wpAnyIn_ready (rs := [6]) (by kernel_rfl) (by simp) ?_
            refine (AllReadyIn.cons rfl (fun K hK => ?_) AllReadyIn.nil)
            go_simp
            refine hK _ _ ?_
            clear hK K
            try simp only [Act.put, List.getElem_toArray, List.getElem_cons_succ, List.getElem_cons_zero, List.setIfInBounds_toArray, List.set_cons_zero, List.set_cons_succ]
            refine wpAnyIn_done (by kernel_rfl) ?_ _
            gi_wp2
            exact HFI.out.2.2
        · go_simp
          refine hK _ _ ?_
          clear hK K
          try simp only [Act.put, List.getElem_toArray, List.getElem_cons_succ, List.getElem_cons_zero, List.setIfInBounds_toArray, List.set_cons_zero, List.set_cons_succ]
          refine wpAnyIn_ready (rs := [0, 2]) (by kernel_rfl) (by simp) ?_
          refine (AllReadyIn.cons rfl (fun K hK => ?_) (AllReadyIn.cons rfl (fun K hK => ?_) AllReadyIn.nil))
          · go_simp
            refine hK _ _ ?_
            clear hK K
            try simp only [Act.put, List.getElem_toArray, List.getElem_cons_succ, List.getElem_cons_zero, List.setIfInBounds_toArray, List.set_cons_zero, List.set_cons_succ]
            refine wpAnyIn_ready (rs := [2]) (by kernel_rfl) (by simp) ?_
            refine (AllReadyIn.cons rfl (fun K hK => ?_) AllReadyIn.nil)
            go_simp
            refine hK _ _ ?_
            clear hK K
            try simp only [Act.put, List.getElem_toArray, List.getElem_cons_succ, List.getElem_cons_zero, List.setIfInBounds_toArray, List.set_cons_zero, List.set_cons_succ]
            refine wpAnyIn_ready (rs := [3]) (by kernel_rfl) (by simp) ?_
            refine (AllReadyIn.cons rfl (fun K hK => ?_) AllReadyIn.nil)
            go_simp
            refine ⟨(fun h => by cases h), (HCH.out _ _ HND.out hbD HTD.out).mono ?_⟩
            rintro e w5 ⟨rfl, hb5⟩
            have HB5 := Lib.hid hb5
            have c5 := (HV.out.below hb5 HV.out.lt).cell1
            have c6 := ((HV.out.below hb5 HV.out.lt).alloc (.cells #[.string ⟨x.toArray⟩] 9)).cell1
            clear hb5
            dsimp only
            refine hK _ _ ?_
            clear hK K
            try simp only [Act.put, List.getElem_toArray, List.getElem_cons_succ, List.getElem_cons_zero, List.setIfInBounds_toArray, List.set_cons_zero, List.set_cons_succ]
            refine wpAnyIn_ready (rs := [4]) (by kernel_rfl) (by simp) ?_
            refine (AllReadyIn.cons rfl (fun K hK => ?_) AllReadyIn.nil)
            go_simp
            refine hK _ _ ?_
            clear hK K
            try simp only [Act.put, List.getElem_toArray, List.getElem_cons_succ, List.getElem_cons_zero, List.setIfInBounds_toArray, List.set_cons_zero, List.set_cons_succ]
            refine wpAnyIn_ready (rs := [5]) (by kernel_rfl) (by simp) ?_
            refine (AllReadyIn.cons rfl (fun K hK => ?_) AllReadyIn.nil)
            refine stepIn_append_own _ rfl _ _ 94 rfl (V3.heap.size + 2) 9 i0 (.string ⟨#[]⟩) 1 16 Tryz.underlying94 hi hz0 hz1 hz2 rfl (by decide) _ _ _ rfl (HROW.out w5 HB5.out) ⟨w5.heap.size, 0, none⟩ 1 1 [strV x] rfl rfl (cell_one_new _ _ _) (by simp [Value.oneCell', strV]) (by decide) (by unfold maxLen; omega) (by omega) (by rw [World.size_alloc]; have := HB5.out.size; have := HDZ.out; omega) ?_
            intro g2 cc w6 hown hgrow
            have HFI := Lib.hid (HFIN.out w5 g2 cc w6 HB5.out hgrow hown)
            have k3 := HFI.out.1
            have k4 := HFI.out.2.1
            clear hown hgrow
            refine hK _ _ ?_
            clear hK K
            try simp only [Act.put, List.getElem_toArray, List.getElem_cons_succ, List.getElem_cons_zero, List.setIfInBounds_toArray, List.set_cons_zero, List.set_cons_succ]
            refine wpAnyIn_ready (rs := [6]) (by kernel_rfl) (by simp) ?_
            refine (AllReadyIn.cons rfl (fun K hK => ?_) AllReadyIn.nil)
            go_simp
            refine hK _ _ ?_
            clear hK K
            try simp only [Act.put, List.getElem_toArray, List.getElem_cons_succ, List.getElem_cons_zero, List.setIfInBounds_toArray, List.set_cons_zero, List.set_cons_succ]
            refine wpAnyIn_done (by kernel_rfl) ?_ _
            gi_wp2
            exact HFI.out.2.2
          · go_simp
            refine hK _ _ ?_
            clear hK K
            try simp only [Act.put, List.getElem_toArray, List.getElem_cons_succ, List.getElem_cons_zero, List.setIfInBounds_toArray, List.set_cons_zero, List.set_cons_succ]
            refine wpAnyIn_ready (rs := [0, 3]) (by kernel_rfl) (by simp) ?_
            refine (AllReadyIn.cons rfl (fun K hK => ?_) (AllReadyIn.cons rfl (fun K hK => ?_) AllReadyIn.nil))
            · go_simp
              refine hK _ _ ?_
              clear hK K
              try simp only [Act.put, List.getElem_toArray, List.getElem_cons_succ, List.getElem_cons_zero, List.setIfInBounds_toArray, List.set_cons_zero, List.set_cons_succ]
              refine wpAnyIn_ready (rs := [3]) (by kernel_rfl) (by simp) ?_
              refine (AllReadyIn.cons rfl (fun K hK => ?_) AllReadyIn.nil)
              go_simp
              refine ⟨(fun h => by cases h), (HCH.out _ _ HND.out hbD HTD.out).mono ?_⟩
              rintro e w5 ⟨rfl, hb5⟩
              have HB5 := Lib.hid hb5
              have c5 := (HV.out.below hb5 HV.out.lt).cell1
              have c6 := ((HV.out.below hb5 HV.out.lt).alloc (.cells #[.string ⟨x.toArray⟩] 9)).cell1
              clear hb5
              dsimp only
              refine hK _ _ ?_
              clear hK K
              try simp only [Act.put, List.getElem_toArray, List.getElem_cons_succ, List.getElem_cons_zero, List.setIfInBounds_toArray, List.set_cons_zero, List.set_cons_succ]
              refine wpAnyIn_ready (rs := [4]) (by kernel_rfl) (by simp) ?_
              refine (AllReadyIn.cons rfl (fun K hK => ?_) AllReadyIn.nil)
              go_simp
              refine hK _ _ ?_
              clear hK K
              try simp only [Act.put, List.getElem_toArray, List.getElem_cons_succ, List.getElem_cons_zero, List.setIfInBounds_toArray, List.set_cons_zero, List.set_cons_succ]
              refine wpAnyIn_ready (rs := [5]) (by kernel_rfl) (by simp) ?_
              refine (AllReadyIn.cons rfl (fun K hK => ?_) AllReadyIn.nil)
              refine stepIn_append_own _ rfl _ _ 94 rfl (V3.heap.size + 2) 9 i0 (.string ⟨#[]⟩) 1 16 Tryz.underlying94 hi hz0 hz1 hz2 rfl (by decide) _ _ _ rfl (HROW.out w5 HB5.out) ⟨w5.heap.size, 0, none⟩ 1 1 [strV x] rfl rfl (cell_one_new _ _ _) (by simp [Value.oneCell', strV]) (by decide) (by unfold maxLen; omega) (by omega) (by rw [World.size_alloc]; have := HB5.out.size; have := HDZ.out; omega) ?_
              intro g2 cc w6 hown hgrow
              have HFI := Lib.hid (HFIN.out w5 g2 cc w6 HB5.out hgrow hown)
              have k3 := HFI.out.1
              have k4 := HFI.out.2.1
              clear hown hgrow
              refine hK _ _ ?_
              clear hK K
              try simp only [Act.put, List.getElem_toArray, List.getElem_cons_succ, List.getElem_cons_zero, List.setIfInBounds_toArray, List.set_cons_zero, List.set_cons_succ]
              refine wpAnyIn_ready (rs := [6]) (by kernel_rfl) (by simp) ?_
              refine (AllReadyIn.cons rfl (fun K hK => ?_) AllReadyIn.nil)
              go_simp
              refine hK _ _ ?_
              clear hK K
              try simp only [Act.put, List.getElem_toArray, List.getElem_cons_succ, List.getElem_cons_zero, List.setIfInBounds_toArray, List.set_cons_zero, List.set_cons_succ]
              refine wpAnyIn_done (by kernel_rfl) ?_ _
              gi_wp2
              exact HFI.out.2.2
            · go_simp
              refine ⟨(fun h => by cases h), (HCH.out _ _ HND.out hbD HTD.out).mono ?_⟩
              rintro e w5 ⟨rfl, hb5⟩
              have HB5 := Lib.hid hb5
              have c5 := (HV.out.below hb5 HV.out.lt).cell1
              have c6 := ((HV.out.below hb5 HV.out.lt).alloc (.cells #[.string ⟨x.toArray⟩] 9)).cell1
              clear hb5
              dsimp only
              refine hK _ _ ?_
              clear hK K
              try simp only [Act.put, List.getElem_toArray, List.getElem_cons_succ, List.getElem_cons_zero, List.setIfInBounds_toArray, List.set_cons_zero, List.set_cons_succ]
              refine wpAnyIn_ready (rs := [0, 4]) (by kernel_rfl) (by simp) ?_
              refine (AllReadyIn.cons rfl (fun K hK => ?_) (AllReadyIn.cons rfl (fun K hK => ?_) AllReadyIn.nil))
              · go_simp
                refine hK _ _ ?_
                clear hK K
                try simp only [Act.put, List.getElem_toArray, List.getElem_cons_succ, List.getElem_cons_zero, List.setIfInBounds_toArray, List.set_cons_zero, List.set_cons_succ]
                refine wpAnyIn_ready (rs := [4]) (by kernel_rfl) (by simp) ?_
                refine (AllReadyIn.cons rfl (fun K hK => ?_) AllReadyIn.nil)
                go_simp
                refine hK _ _ ?_
                clear hK K
                try simp only [Act.put, List.getElem_toArray, List.getElem_cons_succ, List.getElem_cons_zero, List.setIfInBounds_toArray, List.set_cons_zero, List.set_cons_succ]
                refine wpAnyIn_ready (rs := [5]) (by kernel_rfl) (by simp) ?_
                refine (AllReadyIn.cons rfl (fun K hK => ?_) AllReadyIn.nil)
                refine stepIn_append_own _ rfl _ _ 94 rfl (V3.heap.size + 2) 9 i0 (.string ⟨#[]⟩) 1 16 Tryz.underlying94 hi hz0 hz1 hz2 rfl (by decide) _ _ _ rfl (HROW.out w5 HB5.out) ⟨w5.heap.size, 0, none⟩ 1 1 [strV x] rfl rfl (cell_one_new _ _ _) (by simp [Value.oneCell', strV]) (by decide) (by unfold maxLen; omega) (by omega) (by rw [World.size_alloc]; have := HB5.out.size; have := HDZ.out; omega) ?_
                intro g2 cc w6 hown hgrow
                have HFI := Lib.hid (HFIN.out w5 g2 cc w6 HB5.out hgrow hown)
                have k3 := HFI.out.1
                have k4 := HFI.out.2.1
                clear hown hgrow
                refine hK _ _ ?_
                clear hK K
                try simp only [Act.put, List.getElem_toArray, List.getElem_cons_succ, List.getElem_cons_zero, List.setIfInBounds_toArray, List.set_cons_zero, List.set_cons_succ]
                refine wpAnyIn_ready (rs := [6]) (by kernel_rfl) (by simp) ?_
                refine (AllReadyIn.cons rfl (fun K hK => ?_) AllReadyIn.nil)
                go_simp
                refine hK _ _ ?_
                clear hK K
                try simp only [Act.put, List.getElem_toArray, List.getElem_cons_succ, List.getElem_cons_zero, List.setIfInBounds_toArray, List.set_cons_zero, List.set_cons_succ]
                refine wpAnyIn_done (by kernel_rfl) ?_ _
                gi_wp2
                exact HFI.out.2.2
              · go_simp
                refine hK _ _ ?_
                clear hK K
                try simp only [Act.put, List.getElem_toArray, List.getElem_cons_succ, List.getElem_cons_zero, List.setIfInBounds_toArray, List.set_cons_zero, List.set_cons_succ]
                refine wpAnyIn_ready (rs := [0]) (by kernel_rfl) (by simp) ?_
                refine (AllReadyIn.cons rfl (fun K hK => ?_) AllReadyIn.nil)
                go_simp
                refine hK _ _ ?_
                clear hK K
                try simp only [Act.put, List.getElem_toArray, List.getElem_cons_succ, List.getElem_cons_zero, List.setIfInBounds_toArray, List.set_cons_zero, List.set_cons_succ]
                refine wpAnyIn_ready (rs := [5]) (by kernel_rfl) (by simp) ?_
                refine (AllReadyIn.cons rfl (fun K hK => ?_) AllReadyIn.nil)
                refine stepIn_append_own _ rfl _ _ 94 rfl (V3.heap.size + 2) 9 i0 (.string ⟨#[]⟩) 1 16 Tryz.underlying94 hi hz0 hz1 hz2 rfl (by decide) _ _ _ rfl (HROW.out w5 HB5.out) ⟨w5.heap.size, 0, none⟩ 1 1 [strV x] rfl rfl (cell_one_new _ _ _) (by simp [Value.oneCell', strV]) (by decide) (by unfold maxLen; omega) (by omega) (by rw [World.size_alloc]; have := HB5.out.size; have := HDZ.out; omega) ?_
                intro g2 cc w6 hown hgrow
                have HFI := Lib.hid (HFIN.out w5 g2 cc w6 HB5.out hgrow hown)
                have k3 := HFI.out.1
                have k4 := HFI.out.2.1
                clear hown hgrow
                refine hK _ _ ?_
                clear hK K
                try simp only [Act.put, List.getElem_toArray, List.getElem_cons_succ, List.getElem_cons_zero, List.setIfInBounds_toArray, List.set_cons_zero, List.set_cons_succ]
                refine wpAnyIn_ready (rs := [6]) (by kernel_rfl) (by simp) ?_
                refine (AllReadyIn.cons rfl (fun K hK => ?_) AllReadyIn.nil)
                go_simp
                refine hK _ _ ?_
                clear hK K
                try simp only [Act.put, List.getElem_toArray, List.getElem_cons_succ, List.getElem_cons_zero, List.setIfInBounds_toArray, List.set_cons_zero, List.set_cons_succ]
                refine wpAnyIn_done (by kernel_rfl) ?_ _
                gi_wp2
                exact HFI.out.2.2
        · go_simp
          refine hK _ _ ?_
          clear hK K
          try simp only [Act.put, List.getElem_toArray, List.getElem_cons_succ, List.getElem_cons_zero, List.setIfInBounds_toArray, List.set_cons_zero, List.set_cons_succ]
          refine wpAnyIn_ready (rs := [0, 1]) (by kernel_rfl) (by simp) ?_
          refine (AllReadyIn.cons rfl (fun K hK => ?_) (AllReadyIn.cons rfl (fun K hK => ?_) AllReadyIn.nil))
          · go_simp
            refine hK _ _ ?_
            clear hK K
            try simp only [Act.put, List.getElem_toArray, List.getElem_cons_succ, List.getElem_cons_zero, List.setIfInBounds_toArray, List.set_cons_zero, List.set_cons_succ]
            refine wpAnyIn_ready (rs := [1]) (by kernel_rfl) (by simp) ?_
            refine (AllReadyIn.cons rfl (fun K hK => ?_) AllReadyIn.nil)
            go_simp
            refine hK _ _ ?_
            clear hK K
            try simp only [Act.put, List.getElem_toArray, List.getElem_cons_succ, List.getElem_cons_zero, List.setIfInBounds_toArray, List.set_cons_zero, List.set_cons_succ]
            refine wpAnyIn_ready (rs := [3]) (by kernel_rfl) (by simp) ?_
            refine (AllReadyIn.cons rfl (fun K hK => ?_) AllReadyIn.nil)
            go_simp
            refine ⟨(fun h => by cases h), (HCH.out _ _ HND.out hbD HTD.out).mono ?_⟩
            rintro e w5 ⟨rfl, hb5⟩
            have HB5 := Lib.hid hb5
            have c5 := (HV.out.below hb5 HV.out.lt).cell1
            have c6 := ((HV.out.below hb5 HV.out.lt).alloc (.cells #[.string ⟨x.toArray⟩] 9)).cell1
            clear hb5
            dsimp only
            refine hK _ _ ?_
            clear hK K
            try simp only [Act.put, List.getElem_toArray, List.getElem_cons_succ, List.getElem_cons_zero, List.setIfInBounds_toArray, List.set_cons_zero, List.set_cons_succ]
            refine wpAnyIn_ready (rs := [4]) (by kernel_rfl) (by simp) ?_
            refine (AllReadyIn.cons rfl (fun K hK => ?_) AllReadyIn.nil)
            go_simp
            refine hK _ _ ?_
            clear hK K
            try simp only [Act.put, List.getElem_toArray, List.getElem_cons_succ, List.getElem_cons_zero, List.setIfInBounds_toArray, List.set_cons_zero, List.set_cons_succ]
            refine wpAnyIn_ready (rs := [5]) (by kernel_rfl) (by simp) ?_
            refine (AllReadyIn.cons rfl (fun K hK => ?_) AllReadyIn.nil)
            refine stepIn_append_own _ rfl _ _ 94 rfl (V3.heap.size + 2) 9 i0 (.string ⟨#[]⟩) 1 16 Tryz.underlying94 hi hz0 hz1 hz2 rfl (by decide) _ _ _ rfl (HROW.out w5 HB5.out) ⟨w5.heap.size, 0, none⟩ 1 1 [strV x] rfl rfl (cell_one_new _ _ _) (by simp [Value.oneCell', strV]) (by decide) (by unfold maxLen; omega) (by omega) (by rw [World.size_alloc]; have := HB5.out.size; have := HDZ.out; omega) ?_
            intro g2 cc w6 hown hgrow
            have HFI := Lib.hid (HFIN.out w5 g2 cc w6 HB5.out hgrow hown)
            have k3 := HFI.out.1
            have k4 := HFI.out.2.1
            clear hown hgrow
            refine hK _ _ ?_
            clear hK K
            try simp only [Act.put, List.getElem_toArray, List.getElem_cons_succ, List.getElem_cons_zero, List.setIfInBounds_toArray, List.set_cons_zero, List.set_cons_succ]
            refine wpAnyIn_ready (rs := [6]) (by kernel_rfl) (by simp) ?_
            refine (AllReadyIn.cons rfl (fun K hK => ?_) AllReadyIn.nil)
            go_simp
            refine hK _ _ ?_
            clear hK K
            try simp only [Act.put, List.getElem_toArray, List.getElem_cons_succ, List.getElem_cons_zero, List.setIfInBounds_toArray, List.set_cons_zero, List.set_cons_succ]
            refine wpAnyIn_done (by kernel_rfl) ?_ _
            gi_wp2
            exact HFI.out.2.2
          · go_simp
            refine hK _ _ ?_
            clear hK K
            try simp only [Act.put, List.getElem_toArray, List.getElem_cons_succ, List.getElem_cons_zero, List.setIfInBounds_toArray, List.set_cons_zero, List.set_cons_succ]
            refine wpAnyIn_ready (rs := [0, 3]) (by kernel_rfl) (by simp) ?_
            refine (AllReadyIn.cons rfl (fun K hK => ?_) (AllReadyIn.cons rfl (fun K hK => ?_) AllReadyIn.nil))
            · go_simp
              refine hK _ _ ?_
              clear hK K
              try simp only [Act.put, List.getElem_toArray, List.getElem_cons_succ, List.getElem_cons_zero, List.setIfInBounds_toArray, List.set_cons_zero, List.set_cons_succ]
              refine wpAnyIn_ready (rs := [3]) (by kernel_rfl) (by simp) ?_
              refine (AllReadyIn.cons rfl (fun K hK => ?_) AllReadyIn.nil)
              go_simp
              refine ⟨(fun h => by cases h), (HCH.out _ _ HND.out hbD HTD.out).mono ?_⟩
              rintro e w5 ⟨rfl, hb5⟩
              have HB5 := Lib.hid hb5
              have c5 := (HV.out.below hb5 HV.out.lt).cell1
              have c6 := ((HV.out.below hb5 HV.out.lt).alloc (.cells #[.string ⟨x.toArray⟩] 9)).cell1
              clear hb5
              dsimp only
              refine hK _ _ ?_
              clear hK K
              try simp only [Act.put, List.getElem_toArray, List.getElem_cons_succ, List.getElem_cons_zero, List.setIfInBounds_toArray, List.set_cons_zero, List.set_cons_succ]
              refine wpAnyIn_ready (rs := [4]) (by kernel_rfl) (by simp) ?_
              refine (AllReadyIn.cons rfl (fun K hK => ?_) AllReadyIn.nil)
              go_simp
              refine hK _ _ ?_
              clear hK K
              try simp only [Act.put, List.getElem_toArray, List.getElem_cons_succ, List.getElem_cons_zero, List.setIfInBounds_toArray, List.set_cons_zero, List.set_cons_succ]
              refine wpAnyIn_ready (rs := [5]) (by kernel_rfl) (by simp) ?_
              refine (AllReadyIn.cons rfl (fun K hK => ?_) AllReadyIn.nil)
              refine stepIn_append_own _ rfl _ _ 94 rfl (V3.heap.size + 2) 9 i0 (.string ⟨#[]⟩) 1 16 Tryz.underlying94 hi hz0 hz1 hz2 rfl (by decide) _ _ _ rfl (HROW.out w5 HB5.out) ⟨w5.heap.size, 0, none⟩ 1 1 [strV x] rfl rfl (cell_one_new _ _ _) (by simp [Value.oneCell', strV]) (by decide) (by unfold maxLen; omega) (by omega) (by rw [World.size_alloc]; have := HB5.out.size; have := HDZ.out; omega) ?_
              intro g2 cc w6 hown hgrow
              have HFI := Lib.hid (HFIN.out w5 g2 cc w6 HB5.out hgrow hown)
              have k3 := HFI.out.1
              have k4 := HFI.out.2.1
              clear hown hgrow
              refine hK _ _ ?_
              clear hK K
              try simp only [Act.put, List.getElem_toArray, List.getElem_cons_succ, List.getElem_cons_zero, List.setIfInBounds_toArray, List.set_cons_zero, List.set_cons_succ]
              refine wpAnyIn_ready (rs := [6]) (by kernel_rfl) (by simp) ?_
              refine (AllReadyIn.cons rfl (fun K hK => ?_) AllReadyIn.nil)
              go_simp
              refine hK _ _ ?_
              clear hK K
              try simp only [Act.put, List.getElem_toArray, List.getElem_cons_succ, List.getElem_cons_zero, List.setIfInBounds_toArray, List.set_cons_zero, List.set_cons_succ]
              refine wpAnyIn_done (by kernel_rfl) ?_ _
              gi_wp2
              exact HFI.out.2.2
            · go_simp
              refine ⟨(fun h => by cases h), (HCH.out _ _ HND.out hbD HTD.out).mono ?_⟩
              rintro e w5 ⟨rfl, hb5⟩
              have HB5 := Lib.hid hb5
              have c5 := (HV.out.below hb5 HV.out.lt).cell1
              have c6 := ((HV.out.below hb5 HV.out.lt).alloc (.cells #[.string ⟨x.toArray⟩] 9)).cell1
              clear hb5
              dsimp only
              refine hK _ _ ?_
              clear hK K
              try simp only [Act.put, List.getElem_toArray, List.getElem_cons_succ, List.getElem_cons_zero, List.setIfInBounds_toArray, List.set_cons_zero, List.set_cons_succ]
              refine wpAnyIn_ready (rs := [0, 4]) (by kernel_rfl) (by simp) ?_
              refine (AllReadyIn.cons rfl (fun K hK => ?_) (AllReadyIn.cons rfl (fun K hK => ?_) AllReadyIn.nil))
              · go_simp
                refine hK _ _ ?_
                clear hK K
                try simp only [Act.put, List.getElem_toArray, List.getElem_cons_succ, List.getElem_cons_zero, List.setIfInBounds_toArray, List.set_cons_zero, List.set_cons_succ]
                refine wpAnyIn_ready (rs := [4]) (by kernel_rfl) (by simp) ?_
                refine (AllReadyIn.cons rfl (fun K hK => ?_) AllReadyIn.nil)
                go_simp
                refine hK _ _ ?_
                clear hK K
                try simp only [Act.put, List.getElem_toArray, List.getElem_cons_succ, List.getElem_cons_zero, List.setIfInBounds_toArray, List.set_cons_zero, List.set_cons_succ]
                refine wpAnyIn_ready (rs := [5]) (by kernel_rfl) (by simp) ?_
                refine (AllReadyIn.cons rfl (fun K hK => ?_) AllReadyIn.nil)
                refine stepIn_append_own _ rfl _ _ 94 rfl (V3.heap.size + 2) 9 i0 (.string ⟨#[]⟩) 1 16 Tryz.underlying94 hi hz0 hz1 hz2 rfl (by decide) _ _ _ rfl (HROW.out w5 HB5.out) ⟨w5.heap.size, 0, none⟩ 1 1 [strV x] rfl rfl (cell_one_new _ _ _) (by simp [Value.oneCell', strV]) (by decide) (by unfold maxLen; omega) (by omega) (by rw [World.size_alloc]; have := HB5.out.size; have := HDZ.out; omega) ?_
                intro g2 cc w6 hown hgrow
                have HFI := Lib.hid (HFIN.out w5 g2 cc w6 HB5.out hgrow hown)
                have k3 := HFI.out.1
                have k4 := HFI.out.2.1
                clear hown hgrow
                refine hK _ _ ?_
                clear hK K
                try simp only [Act.put, List.getElem_toArray, List.getElem_cons_succ, List.getElem_cons_zero, List.setIfInBounds_toArray, List.set_cons_zero, List.set_cons_succ]
                refine wpAnyIn_ready (rs := [6]) (by kernel_rfl) (by simp) ?_
                refine (AllReadyIn.cons rfl (fun K hK => ?_) AllReadyIn.nil)
                go_simp
                refine hK _ _ ?_
                clear hK K
                try simp only [Act.put, List.getElem_toArray, List.getElem_cons_succ, List.getElem_cons_zero, List.setIfInBounds_toArray, List.set_cons_zero, List.set_cons_succ]
                refine wpAnyIn_done (by kernel_rfl) ?_ _
                gi_wp2
                exact HFI.out.2.2
              · go_simp
                refine hK _ _ ?_
                clear hK K
                try simp only [Act.put, List.getElem_toArray, List.getElem_cons_succ, List.getElem_cons_zero, List.setIfInBounds_toArray, List.set_cons_zero, List.set_cons_succ]
                refine wpAnyIn_ready (rs := [0]) (by kernel_rfl) (by simp) ?_
                refine (AllReadyIn.cons rfl (fun K hK => ?_) AllReadyIn.nil)
                go_simp
                refine hK _ _ ?_
                clear hK K
                try simp only [Act.put, List.getElem_toArray, List.getElem_cons_succ, List.getElem_cons_zero, List.setIfInBounds_toArray, List.set_cons_zero, List.set_cons_succ]
                refine wpAnyIn_ready (rs := [5]) (by kernel_rfl) (by simp) ?_
                refine (AllReadyIn.cons rfl (fun K hK => ?_) AllReadyIn.nil)
                refine stepIn_append_own _ rfl _ _ 94 rfl (V3.heap.size + 2) 9 i0 (.string ⟨#[]⟩) 1 16 Tryz.underlying94 hi hz0 hz1 hz2 rfl (by decide) _ _ _ rfl (HROW.out w5 HB5.out) ⟨w5.heap.size, 0, none⟩ 1 1 [strV x] rfl rfl (cell_one_new _ _ _) (by simp [Value.oneCell', strV]) (by decide) (by unfold maxLen; omega) (by omega) (by rw [World.size_alloc]; have := HB5.out.size; have := HDZ.out; omega) ?_
                intro g2 cc w6 hown hgrow
                have HFI := Lib.hid (HFIN.out w5 g2 cc w6 HB5.out hgrow hown)
                have k3 := HFI.out.1
                have k4 := HFI.out.2.1
                clear hown hgrow
                refine hK _ _ ?_
                clear hK K
                try simp only [Act.put, List.getElem_toArray, List.getElem_cons_succ, List.getElem_cons_zero, List.setIfInBounds_toArray, List.set_cons_zero, List.set_cons_succ]
                refine wpAnyIn_ready (rs := [6]) (by kernel_rfl) (by simp) ?_
                refine (AllReadyIn.cons rfl (fun K hK => ?_) AllReadyIn.nil)
                go_simp
                refine hK _ _ ?_
                clear hK K
                try simp only [Act.put, List.getElem_toArray, List.getElem_cons_succ, List.getElem_cons_zero, List.setIfInBounds_toArray, List.set_cons_zero, List.set_cons_succ]
                refine wpAnyIn_done (by kernel_rfl) ?_ _
                gi_wp2
                exact HFI.out.2.2
theorem nodeText_in (L : List ND) (hL : L.length < 100000) (hw : beh L L.length 0 = some L.length) (b off cap : Nat) : ∀ (f n i k fb : Nat) (W : World), beh L fb i = some k → L.length ≤ i + f → NdsIn W (some ⟨b, off, none⟩) L → b < W.heap.size → TS W →
    CallsIn Fence.wide n Tryz.prog 37 #[.slice (some ⟨b, off, none⟩) L.length cap, .int .i64 (i : Int)] W fun e w' => e = .returned (.string ⟨(ntT L f i).toArray⟩) ∧ Below W.heap.size W w' := by
  intro f
  induction f with
  | zero => exact fun n i k fb W h1 h2 _ _ _ => absurd (beh_open h1).1 (by omega)
  | succ f ih => exact fun n i k fb W h1 h2 h3 h4 h5 => nodeText_step L hL hw b off cap f ih n i k fb W h1 h2 h3 h4 h5
end Go.Proofs.YtdnbnigebejgjaaGreatDoor
