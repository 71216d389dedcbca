/-
  slices.AppendSeq and slices.Collect over an iterator that hands on a fixed list of ints.
  pattern.Kids for any nodes.
-/
import Derived.Test.YtdnbnigebejgjaaGreatDoorHC8
import Derived.Maps.OwnIn
namespace Go.Proofs.YtdnbnigebejgjaaGreatDoor
open Go.RowKit Go.Shelf
attribute [local go_sem] Oper.semAt_some Oper.askedIn wide_fn
theorem iterL_from {st : Bool} {fid : Nat} {lb : Array Value} {E : List (Array Value)} {Bad : Nat → Prop} {ks : Nat → Prop} {w0 w1 : World} (h : IterL st fid lb E Bad ks w0) (hb : Below w0.heap.size w0 w1) : IterL st fid lb E Bad ks w1 :=
  fun n lp J Jx W hW hJ hX hY h0 => h n lp J Jx W (hb.trans (hW.mono hb.size)) hJ hX hY h0
def intV (k : Int) : Value := .int .i64 k
def AsI (c : List Int) (W : World) (N M j : Nat) (X : World) : Prop :=
  ∃ v, CBlk 45 X W.heap.size [v] ∧ X.ownsRow W.heap.size 3 1 v j ((c.take j).map intV) ∧ (∀ r, v.ownBlock = some r → N + 2 ≤ r) ∧ Below W.heap.size W X ∧ M ≤ X.heap.size
set_option maxHeartbeats 8000000 in
set_option maxRecDepth 100000 in
theorem appendSeq_in (fid : Nat) (lb : Array Value) (he : ∀ args w, (callFunc fid args).run Tryz.prog w = .ok (.enter fid args) w) (c : List Int) (hc : c.length < 1000000) (Bad : Nat → Prop) (hbad : ∀ j, j < c.length → ¬ Bad j) (ks : Nat → Prop) (W : World) (hks : ∀ k, ks k → k < W.heap.size) (hit : IterL false fid lb (intE c) Bad ks W) (n : Nat) :
    CallsIn Fence.wide n Tryz.prog 65 #[.slice none 0 0, .func (.func fid) #[] lb] W fun e w' => ∃ v, e = .returned v ∧ w'.ownsRow W.heap.size 3 1 v c.length (c.map intV) ∧ Below W.heap.size W w' := by
  obtain ⟨i0, hi, hz0, hz1, hz2⟩ := info_parts infoI
  obtain ⟨X3, hX3⟩ : ∃ X3, W.alloc (.cells #[.slice none 0 0] 45) = X3 := ⟨_, rfl⟩
  have g0 : CBlk 45 X3 W.heap.size [.slice none 0 0] := by rw [← hX3]; exact CBlk.new _ W _
  have hB3 : Below W.heap.size W X3 := by rw [← hX3]; exact (Below.refl _ W).alloc (Nat.le_refl _) _
  have hz3 : X3.heap.size = W.heap.size + 1 := by rw [← hX3]; simp
  have hit3 := iterL_from hit hB3
  have HIT := Lib.hid hit3
  clear hit hit3
  refine callsIn_of_wp_marks Tryz.func65 rfl trivial ?_ rfl
  simp only [Tryz.ntmps65, List.size_toArray, List.length_cons, List.length_nil, Nat.reduceAdd, Nat.reduceSub, Array.replicate_succ, Array.replicate_zero, List.push_toArray, List.append_toArray, List.nil_append, List.cons_append]
  gi_wp2_with fail
  clear hX3
  refine rangeL (st := false) (fid := fid) (lb := lb) (E := intE c) (Bad := Bad) (ks := ks)
    rfl he (fun j hj => by simp [intE]) HIT.out (fun k hk => by have := hks k hk; omega)
    (AsI c W X3.heap.size X3.heap.size) (fun _ => False) ?hI ?hIx ?h0 ?round ?done ?stop
  case hI =>
    rintro j X X' row ⟨v, y0, y1, y2, y3, y4⟩ hg hr
    have hr' : ∀ r, row = some r → X3.heap.size ≤ r ∧ r < X3.heap.size + 2 := fun r e => ⟨(hr r e).1, (hr r e).2 rfl⟩
    refine ⟨v, y0.kept hg (fun e => by have := hr' _ e.symm; omega), y1.kept hg ?_, y2, y3.grown hg (by omega) (fun r e => by have := hr' r e; omega), Nat.le_trans y4 hg.size⟩
    cases hv : v.ownBlock with
    | none => exact .inl rfl
    | some r => exact .inr (fun e => by have h1 := y2 r hv; have h2 := hr' r e.symm; omega)
  case hIx => exact fun X X' row h => h.elim
  case h0 => exact ⟨_, g0, World.ownsRow_nil _ _ _ _, (fun r e => by cases e), hB3, Nat.le_refl _⟩
  case done =>
    rintro X ⟨v, y0, y1, y2, y3, y4⟩ hz hD
    rw [show (intE c).length = c.length from List.length_map _, List.take_length] at y1
    have HD := Lib.hid hD
    have Y1 := Lib.hid y1
    have Y3 := Lib.hid y3
    have Y2 := Lib.hid y2
    have c0 := y0.cell1
    clear g0 hB3 hD y0 y1 y3 y2
    gi_wp2_with fail
    have hgp := grownBy_putObj' X X3.heap.size (.deferred none)
    refine ⟨by simp, .inl ⟨_, _, rfl, run_takeDeferred HD.out, ?_⟩⟩
    refine ⟨_, results_tmp rfl _ _ _, v, rfl, Y1.out.kept hgp ?_, Y3.out.grown hgp (by omega) (fun r hr => by injection hr; omega)⟩
    cases hv : v.ownBlock with
    | none => exact .inl rfl
    | some r => exact .inr (fun e => by have h1 := Y2.out r hv; injection e; omega)
  case stop => exact fun X h => h.elim
  case round =>
    rintro j hj m X ⟨v, y0, y1, y2, y3, y4⟩ hz
    have hjc : j < c.length := by rw [show (intE c).length = c.length from List.length_map _] at hj; exact hj
    obtain ⟨x, hx⟩ : ∃ x, c.getD j (-1) = x := ⟨_, rfl⟩
    rw [intE_at, hx]
    have htk : (c.take (j + 1)).map intV = (c.take j).map intV ++ [.int .i64 x] := by
      rw [List.take_add_one, List.getElem?_eq_getElem hjc, List.map_append, ← hx, List.getD_eq_getElem?_getD, List.getElem?_eq_getElem hjc]
      rfl
    have HTK := Lib.hid htk
    clear g0 hB3 hj htk hx
    gi_wp2
    refine ⟨trivial, ?_⟩
    intro X2 hg2
    have hne : ∀ i, i < X3.heap.size → some i ≠ some (X3.heap.size + 1) := fun i hi e => by injection e; omega
    have z0 := y0.kept hg2 (hne _ (by omega))
    have z1 := y1.kept hg2 (by
      cases hv : v.ownBlock with
      | none => exact .inl rfl
      | some r => exact .inr (fun e => by have h1 := y2 r hv; injection e; omega))
    have z3 := y3.grown hg2 (by omega) (fun r e => by injection e; omega)
    have hzz := hg2.size
    have hB : Boxed X2 W.heap.size 45 v := z0
    have c0 := z0.cell1
    clear y0 y1 y3 hg2
    gi_wp2_with (gi_at_builtin; refine wpListIn_append_own_at _ rfl _ _ 45 rfl W.heap.size 3 i0 (.int .i64 0) 1 8 Tryz.underlying45 hi hz0 hz1 hz2 rfl (by decide) _ _ _ rfl (z1.alloc _) ⟨X2.heap.size, 0, none⟩ 1 1 [.int .i64 x] rfl rfl (cell_one_new _ _ _) (by simp [Value.oneCell']) (by unfold maxLen; omega) (by omega) (by simp; omega) ?_; intro v' w1 hown' hgrow _ hat; obtain ⟨g', cap', rfl⟩ := ownsRow_succ hown'; obtain ⟨hv1, hv2, hr2, _, hb2⟩ := hB.appended (by decide) z1 (by omega) (Nat.le_refl _) hown' hgrow; have hc1 := hv1.cell; have hf1 := hv1.frozen)
    have hlow : ∀ r, v.ownBlock = some r → W.heap.size ≤ r := fun r hr => by have := y2 r hr; omega
    have hG : X2.grownBy w1 v.ownBlock := jgtrans (World.grownBy_alloc X2 _ v.ownBlock) hgrow
    have hG1 : w1.grownBy (w1.setCell ⟨W.heap.size, 0, none⟩ (.slice (some ⟨g', 0, none⟩) (j + 1) cap')) (some W.heap.size) := jgset w1 W.heap.size 0 _
    have hK1 : KeepsAt (fun k => k < X2.heap.size ∧ k ≠ W.heap.size ∧ some k ≠ v.ownBlock) X2 (w1.setCell ⟨W.heap.size, 0, none⟩ (.slice (some ⟨g', 0, none⟩) (j + 1) cap')) := (keepsAt_grown hG (fun k hk => ⟨hk.1, hk.2.2⟩)).trans (keepsAt_grown hG1 (fun k hk => ⟨by have := hG.size; omega, fun e => by injection e; omega⟩))
    have hzf := hG.size
    have hzf1 := hG1.size
    refine ⟨⟨hK1 _ ⟨by omega, by omega, fun e => by have := y2 _ e.symm; omega⟩, hK1 _ ⟨by omega, by omega, fun e => by have := y2 _ e.symm; omega⟩⟩, hK1.mono' (fun i hi => ⟨by have := hks i hi; omega, by have := hks i hi; omega, fun e => by have := y2 _ e.symm; have := hks i hi; omega⟩), by omega, hbad j hjc, _, hv2, by rw [HTK.out]; exact hr2, ?_, z3.trans hb2, by omega⟩
    intro r hr
    rcases hat with h | h
    · rw [h] at hr; exact y2 r hr
    · rw [h] at hr
      injection hr with hr
      rw [World.size_alloc] at hr
      omega
theorem collect_in (fid : Nat) (lb : Array Value) (he : ∀ args w, (callFunc fid args).run Tryz.prog w = .ok (.enter fid args) w) (c : List Int) (hc : c.length < 1000000) (Bad : Nat → Prop) (hbad : ∀ j, j < c.length → ¬ Bad j) (ks : Nat → Prop) (W : World) (hks : ∀ k, ks k → k < W.heap.size) (hit : IterL false fid lb (intE c) Bad ks W) :
    Calls Tryz.prog 45 #[.func (.func fid) #[] lb] W fun e w' => ∃ v, e = .returned v ∧ w'.ownsRow W.heap.size 3 1 v c.length (c.map intV) ∧ Below W.heap.size W w' := by
  have H := Lib.hid (appendSeq_in fid lb he c hc Bad hbad ks W hks hit)
  clear hit hbad
  go_enter Tryz.func45, Tryz.ntmps45
  go_wp2_with fail
  refine (callsIn_wide.1 (H.out 0)).mono ?_
  rintro e w' ⟨v, rfl, h1, h2⟩
  go_wp2
  go_ret
  exact ⟨_, rfl, h1, h2⟩
end Go.Proofs.YtdnbnigebejgjaaGreatDoor
namespace Go.Proofs.YtdnbnigebejgjaaGreatDoor
open Go.RowKit Go.Shelf
theorem kl_chn {L : List ND} : ∀ (F f : Nat) (kd : Int) (nx : Nat) (k : Int) (e : Nat), kl L f kd nx k = some e → L.length ≤ nx + F → nx ≤ L.length → ∀ j, j < (chn L F k).length → (nx : Int) ≤ (chn L F k).getD j (-1) ∧ (chn L F k).getD j (-1) < (L.length : Int) ∧ j < F
  | 0, f, kd, nx, k, e, h, h1, h2, j, hj => by
    by_cases hk : k = -1
    · rw [hk, chn_none] at hj; simp at hj
    · obtain ⟨_, _, _, hlt, _⟩ := kl_open h hk
      omega
  | F + 1, f, kd, nx, k, e, h, h1, h2, j, hj => by
    by_cases hk : k = -1
    · rw [hk, chn_none] at hj; simp at hj
    · obtain ⟨f', _, rfl, hlt, k2, hb, hk2⟩ := kl_open h hk
      obtain ⟨_, _, h3, h4⟩ := beh_open hb
      rw [chn_next (by omega) (by omega), Int.toNat_natCast] at hj ⊢
      cases j with
      | zero =>
        show (nx : Int) ≤ (nx : Int) ∧ _
        exact ⟨Int.le_refl _, by show (nx : Int) < _; omega, by omega⟩
      | succ j =>
        have := kl_chn F f' kd k2 _ e hk2 (by omega) h4 j (by simpa using hj)
        show (nx : Int) ≤ (chn L F _).getD j (-1) ∧ (chn L F _).getD j (-1) < _ ∧ _
        omega
theorem chn_len (L : List ND) : ∀ (F : Nat) (k : Int), (chn L F k).length ≤ F + 1
  | 0, k => by unfold chn; split <;> simp
  | F + 1, k => by
    unfold chn
    split
    · simp
    · split
      · simp only [List.length_cons]; have := chn_len L F ((L.getD k.toNat (bare 0 .empty 0)).next); omega
      · simp
theorem own_low {w : World} {base base' : Nat} {e : TypeId} {size n : Nat} {v : Value} {xs : List Value} (h : w.ownsRow base e size v n xs) (hle : base' ≤ base) : w.ownsRow base' e size v n xs := by
  refine ⟨h.1, ?_⟩
  rcases h.2 with hn | ⟨g, cap, cur, rfl, hb, rest⟩
  · exact .inl hn
  · exact .inr ⟨g, cap, cur, rfl, Nat.le_trans hle hb, rest⟩
/-- The children of node i. -/
def kidL (L : List ND) (i : Nat) : List Int := chn L (L.length + 1) ((L.getD i (bare 0 .empty 0)).first)
/-- What Kids says. -/
def kidR (L : List ND) (g k : Int) : List Int × Int :=
  if chkR L g = 0 then (if 0 ≤ k ∧ k < (L.length : Int) then (kidL L k.toNat, 0) else ([], 2)) else ([], chkR L g)
set_option maxHeartbeats 4000000 in
theorem kids_any (L : List ND) (hL : L.length < 100000) (v : Value) (bb en : Bool) (g k : Int) (W : World) (h : NdsAt W v L) :
    Calls Tryz.prog 19 #[.agg #[v, .bool bb, .bool en, .int .i64 g], .int .i64 k] W fun e w' => ∃ u, e = .returned (.tuple #[u, .int .i64 (kidR L g k).2]) ∧ w'.ownsRow W.heap.size 3 1 u (kidR L g k).1.length ((kidR L g k).1.map intV) ∧ Below W.heap.size W w' := by
  obtain ⟨W1, hW1⟩ : ∃ W1, W.alloc (.cells #[v, .bool bb, .bool en, .int .i64 g] 25) = W1 := ⟨_, rfl⟩
  have hB1 : Below W.heap.size W W1 := by rw [← hW1]; exact (Below.refl _ W).alloc (Nat.le_refl _) _
  have s1 : CBlk 25 W1 W.heap.size [v, .bool bb, .bool en, .int .i64 g] := by rw [← hW1]; exact CBlk.new _ W _
  have hz1 : W1.heap.size = W.heap.size + 1 := by rw [← hW1]; simp
  have HC := Lib.hid (check_any L (by omega) v bb en g W1 (h.below hB1 (Nat.le_refl _)))
  obtain ⟨t0, t1, t2, t3⟩ : W1.cell? ⟨W.heap.size, 0, none⟩ = _ ∧ W1.cell? ⟨W.heap.size, 1, none⟩ = _ ∧ W1.cell? ⟨W.heap.size, 2, none⟩ = _ ∧ W1.cell? ⟨W.heap.size, 3, none⟩ = _ := ⟨s1.cell 0 (by simp), s1.cell 1 (by simp), s1.cell 2 (by simp), s1.cell 3 (by simp)⟩
  obtain ⟨c, hc⟩ : ∃ c, chkR L g = c := ⟨_, rfl⟩
  rw [hc] at HC
  by_cases h0 : c = 0
  · subst h0
    obtain ⟨p, cap, rfl, hcap, hN⟩ := h
    obtain ⟨hl, ht, hn⟩ := chk_zero hc
    obtain ⟨f1, f2, f3⟩ := treeB_facts ht
    obtain ⟨b, off, rfl, hb⟩ := nds_place hN f1
    by_cases hk0 : k < 0
    · have HR : Hid (kidR L g k = ([], 2)) := Lib.hid (by unfold kidR; rw [if_pos hc, if_neg (by omega)])
      have a1 : decide (k < 0) = true := decide_eq_true hk0
      clear hc hN hl ht hn f1 f2 f3 hcap
      go_enter Tryz.func19, Tryz.ntmps19
      go_wp2_with fail
      refine HC.out.mono ?_
      rintro e w2 ⟨rfl, hB2⟩
      go_wp2
      go_ret2
      rw [HR.out]
      exact ⟨_, rfl, World.ownsRow_nil _ _ _ _, hB1.trans (hB2.mono (by omega))⟩
    · have a1 : decide (k < 0) = false := decide_eq_false hk0
      by_cases hk1 : (L.length : Int) ≤ k
      · have HR : Hid (kidR L g k = ([], 2)) := Lib.hid (by unfold kidR; rw [if_pos hc, if_neg (by omega)])
        have a2 : decide ((L.length : Int) ≤ k) = true := decide_eq_true hk1
        clear hc hN hl ht hn f1 f2 f3 hcap
        go_enter Tryz.func19, Tryz.ntmps19
        go_wp2_with fail
        refine HC.out.mono ?_
        rintro e w2 ⟨rfl, hB2⟩
        have s2 := s1.below hB2 s1.lt
        have c0 := s2.cell 0 (by simp)
        go_wp2
        go_ret2
        rw [HR.out]
        exact ⟨_, rfl, World.ownsRow_nil _ _ _ _, hB1.trans (hB2.mono (by omega))⟩
      · have a2 : decide ((L.length : Int) ≤ k) = false := decide_eq_false hk1
        obtain ⟨i, rfl⟩ := Int.eq_ofNat_of_zero_le (by omega : 0 ≤ k)
        have hi : i < L.length := by omega
        have HR : Hid (kidR L g (i : Int) = (kidL L i, 0)) := Lib.hid (by unfold kidR; rw [if_pos hc, if_pos (by omega)]; rfl)
        have hgi : L.getD i (bare 0 .empty 0) = L[i] := by rw [List.getD_eq_getElem?_getD, List.getElem?_eq_getElem hi]; rfl
        obtain ⟨k2, hk2, _, _⟩ := beh_all f3 i (by omega) hi
        obtain ⟨_, hkl, _, _⟩ := beh_open hk2
        have hbad : ∀ j, j < (kidL L i).length → ¬ BadK L (L.length + 1) (kidL L i) j := by
          intro j hj hbk
          unfold BadK at hbk
          have := kl_chn (L.length + 1) _ _ _ _ _ hkl (by omega) (by omega) j hj
          exact hbk ⟨by have h1 := this.1; unfold kidL; omega, this.2.1, this.2.2⟩
        have hlk : (kidL L i).length < 1000000 := by have := chn_len L (L.length + 1) ((L.getD i (bare 0 .empty 0)).first); unfold kidL; omega
        have HNW := Lib.hid hN
        have HBAD := Lib.hid hbad
        have a3 : decide (L.length ≤ i) = false := decide_eq_false (by omega)
        clear hc hN hl ht hn f1 f2 f3 hcap hk2 hkl hbad
        go_enter Tryz.func19, Tryz.ntmps19
        go_wp2_with fail
        refine HC.out.mono ?_
        rintro e w2 ⟨rfl, hB2⟩
        have s2 := s1.below hB2 s1.lt
        have hBW := hB1.trans (hB2.mono (by omega))
        have c0 := s2.cell 0 (by simp)
        clear s1 hB1 hB2 t0 t1 t2 t3 HC
        go_wp2_with fail
        refine (children_any _ _ _ _ _).mono ?_
        rintro e w' ⟨rfl, rfl⟩
        generalize hX3 : (w2.alloc (.cells #[.slice (some ⟨b, off, none⟩) L.length cap] 23)).alloc (.cells #[.int .i64 (i : Int)] 3) = X3
        have g4 : CBlk 23 X3 w2.heap.size [.slice (some ⟨b, off, none⟩) L.length cap] := by rw [← hX3]; exact (CBlk.new _ w2 _).alloc _
        have g5 : CBlk 3 X3 (w2.heap.size + 1) [.int .i64 (i : Int)] := by
          rw [← hX3]
          have := CBlk.new 3 (w2.alloc (.cells #[.slice (some ⟨b, off, none⟩) L.length cap] 23)) [.int .i64 (i : Int)]
          rwa [World.size_alloc] at this
        have hz2 := hBW.size
        have hBX : Below W.heap.size W X3 := by rw [← hX3]; exact (hBW.alloc (by omega) _).alloc (by simp; omega) _
        have hz3 : X3.heap.size = w2.heap.size + 2 := by rw [← hX3]; simp
        have hN3 : NdsIn X3 (some ⟨b, off, none⟩) L := CellsIn.below HNW.out hBX (Nat.le_refl _)
        have hit := children_iter L (L.length + 1) i hi b off cap w2.heap.size (w2.heap.size + 1) (fun k => k = b ∨ k = w2.heap.size ∨ k = w2.heap.size + 1) X3 hN3 g4 g5 (.inl rfl) (.inr (.inl rfl)) (.inr (.inr rfl))
        rw [← hgi] at hit
        have HIT : Hid (IterL false 66 #[.pointer (some ⟨w2.heap.size, 0, none⟩), .pointer (some ⟨w2.heap.size + 1, 0, none⟩)] (intE (kidL L i)) (BadK L (L.length + 1) (kidL L i)) (fun k => k = b ∨ k = w2.heap.size ∨ k = w2.heap.size + 1) X3) := Lib.hid hit
        clear hX3 g4 g5 hN3 c0 hit hgi
        go_wp2_with fail
        refine (collect_in 66 _ (enters_of Tryz.func66 (by kernel_rfl) rfl) (kidL L i) hlk _ HBAD.out _ X3 (fun k hk => by omega) HIT.out).mono ?_
        rintro e w4 ⟨u, rfl, ho, hB4⟩
        go_wp2
        go_ret2
        rw [HR.out]
        exact ⟨_, rfl, own_low ho (by omega), hBX.trans (hB4.mono (by omega))⟩
  · have HR : Hid (kidR L g k = ([], c)) := Lib.hid (by unfold kidR; rw [hc, if_neg h0])
    have a1 : (c == 0) = false := by simpa using h0
    have a2 : (c != 0) = true := by simpa using h0
    clear h0 hc
    go_enter Tryz.func19, Tryz.ntmps19
    go_wp2_with fail
    refine HC.out.mono ?_
    rintro e w2 ⟨rfl, hB2⟩
    go_wp2
    go_ret2
    rw [HR.out]
    exact ⟨_, rfl, World.ownsRow_nil _ _ _ _, hB1.trans (hB2.mono (by omega))⟩
end Go.Proofs.YtdnbnigebejgjaaGreatDoor
