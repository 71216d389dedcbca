/-
  pattern.classText: a set as a class.
-/
import Derived.Test.YtdnbnigebejgjaaGreatDoorHT2
namespace Go.Proofs.YtdnbnigebejgjaaGreatDoor
open Go.RowKit Go.Shelf
attribute [local go_sem] Oper.semAt_some Oper.askedIn wide_fn
theorem region_round {F : Fence} {n : Nat} {P : Program} {Q : Exit → Act → World → Prop} {ops : Array Oper} {id r : Nat} {a : Act} {w : World} (hro : F.round = none) (hm : P.follows .mixedOrders = true) (hd : noDefer ops = true)
    (h : wpAnyIn F n P .any ops Q ops.size (Array.replicate ops.size false) a { w with drawn := w.drawn + 1 }) : (Code.region id ops true).wpIn (F.inRound r) n P Q a w :=
  wpIn_region_any hm (any_lift hro r hd _ _ _ _ _ h)
theorem region_post {F : Fence} {n : Nat} {P : Program} {Q : Exit → Act → World → Prop} {ops : Array Oper} {id r : Nat} {a : Act} {w : World} {C : World → Prop} {A : Act} (hro : F.round = none) (hm : P.follows .mixedOrders = true) (hd : noDefer ops = true)
    (h : wpAnyIn F n P .any ops (fun e a' w' => e = .normal ∧ a' = A ∧ C w') ops.size (Array.replicate ops.size false) a { w with drawn := w.drawn + 1 }) (k : ∀ w', C w' → Q .normal A w') : (Code.region id ops true).wpIn (F.inRound r) n P Q a w :=
  wpIn_mono (region_round hro hm hd h) (fun e a w hh => by obtain ⟨rfl, rfl, hc⟩ := hh; exact k _ hc)
theorem quo_len (m : List UInt8) (b : UInt8) : 1 ≤ (quo m b).length ∧ (quo m b).length ≤ 2 := by unfold quo; split <;> simp
/-- A run as it is written. -/
def runT (r : Nat × Nat) : List UInt8 :=
  quo [94, 93, 45, 92] (UInt8.ofNat r.1) ++ ((if 1 < (r.2 + 256 - r.1) % 256 then [45] else []) ++ (if r.1 < r.2 then quo [94, 93, 45, 92] (UInt8.ofNat r.2) else []))
def ctT (R : List (Nat × Nat)) (j : Nat) : List UInt8 := [91] ++ (R.take j).flatMap runT
/-- A set as a class. -/
def clsT (s : WSet) : List UInt8 := [91] ++ (runsR s).flatMap runT ++ [93]
theorem runT_len (r : Nat × Nat) : (runT r).length ≤ 5 := by
  unfold runT
  have h1 := quo_len [94, 93, 45, 92] (UInt8.ofNat r.1)
  have h2 := quo_len [94, 93, 45, 92] (UInt8.ofNat r.2)
  simp only [List.length_append]
  split <;> split <;> simp <;> omega
theorem runsF_len : ∀ (f : Nat) (l : List Nat), (runsF f l).length ≤ f
  | 0, _ => Nat.le_refl _
  | f + 1, l => by
    unfold runsF
    split
    · exact Nat.zero_le _
    · have := runsF_len f (l.drop (runN l l.length 1))
      simp only [List.length_cons]
      omega
theorem runsF_lt : ∀ (f : Nat) (l : List Nat), (∀ x ∈ l, x < 256) → ∀ r ∈ runsF f l, r.1 < 256 ∧ r.2 < 256
  | 0, _, _, r, hr => by simp [runsF] at hr
  | f + 1, l, hl, r, hr => by
    unfold runsF at hr
    split at hr
    · simp at hr
    · have hg : ∀ i, l.getD i 0 < 256 := fun i => by
        rw [List.getD_eq_getElem?_getD]
        cases h : l[i]? with
        | none => simp
        | some x => exact hl x (List.mem_of_getElem? h)
      rcases List.mem_cons.1 hr with h | h
      · rw [h]; exact ⟨hg _, hg _⟩
      · exact runsF_lt f _ (fun x hx => hl x (List.mem_of_mem_drop hx)) r h
theorem flat_len (R : List (Nat × Nat)) : (R.flatMap runT).length ≤ 5 * R.length := by
  induction R with
  | nil => simp
  | cons r R ih =>
    have := runT_len r
    simp only [List.flatMap_cons, List.length_append, List.length_cons]
    omega
/-- The text's place, the run's place, and what is kept, in a round. -/
def CSt (W w2 : World) (N B : Nat) (lo hi : UInt8) (T : List UInt8) (Z : World) : Prop :=
  CBlk 9 Z (W.heap.size + 1) [.string ⟨T.toArray⟩] ∧ CBlk 129 Z B [.int .u8 (lo.toNat : Int), .int .u8 (hi.toNat : Int)] ∧ Below W.heap.size W Z ∧ KeepsAt (fun k => N ≤ k ∧ k < w2.heap.size) w2 Z ∧ w2.heap.size ≤ Z.heap.size
theorem CSt.below {W w2 : World} {N B : Nat} {lo hi : UInt8} {T : List UInt8} {Z Z' : World} (h : CSt W w2 N B lo hi T Z) (hb : Below Z.heap.size Z Z') : CSt W w2 N B lo hi T Z' :=
  ⟨h.1.below hb h.1.lt, h.2.1.below hb h.2.1.lt, h.2.2.1.trans (hb.mono h.2.2.1.size), h.2.2.2.1.trans (KeepsAt.below hb (fun k hk => by have := h.2.2.2.2; omega)), Nat.le_trans h.2.2.2.2 hb.size⟩
theorem CSt.drew {W w2 : World} {N B : Nat} {lo hi : UInt8} {T : List UInt8} {Z : World} (h : CSt W w2 N B lo hi T Z) : CSt W w2 N B lo hi T Z.drew := h.below (Below.refl _ _).drew
theorem CSt.set {W w2 : World} {N B : Nat} {lo hi : UInt8} {T : List UInt8} {Z : World} (h : CSt W w2 N B lo hi T Z) (T' : List UInt8) (hN : W.heap.size + 1 < N := by omega) (hB : N ≤ B := by omega) : CSt W w2 N B lo hi T' (Z.setCell ⟨W.heap.size + 1, 0, none⟩ (.string ⟨T'.toArray⟩)) := by
  refine ⟨h.1.set 0 _, h.2.1.other ⟨W.heap.size + 1, 0, none⟩ (by show W.heap.size + 1 ≠ _; omega) _, h.2.2.1.setCell (p := ⟨W.heap.size + 1, 0, none⟩) (by show W.heap.size ≤ W.heap.size + 1; omega) _, ?_, ?_⟩
  · exact h.2.2.2.1.setCell (p := ⟨W.heap.size + 1, 0, none⟩) (by show ¬ (N ≤ W.heap.size + 1 ∧ W.heap.size + 1 < w2.heap.size); omega) _
  · rw [World.size_setCell]; exact h.2.2.2.2
def CtI (R : List (Nat × Nat)) (W : World) (M j : Nat) (X : World) : Prop :=
  CBlk 9 X (W.heap.size + 1) [.string ⟨(ctT R j).toArray⟩] ∧ Below W.heap.size W X ∧ M ≤ X.heap.size
set_option maxHeartbeats 8000000 in
set_option maxRecDepth 100000 in
theorem classText_any (s : WSet) (W : World) (hT : Tab W) (h0w : 1 < W.heap.size) :
    Calls Tryz.prog 79 #[s.v] W fun e w' => e = .returned (.string ⟨(clsT s).toArray⟩) ∧ Below W.heap.size W w' := by
  suffices h : ∀ n, CallsIn Fence.wide n Tryz.prog 79 #[s.v] W fun e w' => e = .returned (.string ⟨(clsT s).toArray⟩) ∧ Below W.heap.size W w' from callsIn_wide.1 (h 0)
  intro n
  obtain ⟨a, b, c, d⟩ := s
  have HRU := Lib.hid fun w => runs_any ⟨a, b, c, d⟩ w
  unfold WSet.v at HRU ⊢
  obtain ⟨R, hR⟩ : ∃ R, runsR ⟨a, b, c, d⟩ = R := ⟨_, rfl⟩
  have hRl : R.length ≤ 257 := by rw [← hR]; exact runsF_len _ _
  have hRt : ∀ r ∈ R, r.1 < 256 ∧ r.2 < 256 := by rw [← hR]; exact runsF_lt _ _ (fun x hx => upto_lt hx)
  have HRES : Hid (clsT ⟨a, b, c, d⟩ = ctT R R.length ++ [93]) := Lib.hid (by unfold clsT ctT; rw [hR, List.take_length])
  refine callsIn_of_wp_marks Tryz.func79 rfl trivial ?_ rfl
  simp only [Tryz.ntmps79, List.size_toArray, List.length_cons, List.length_nil, Nat.reduceAdd, Nat.reduceSub, Array.replicate_succ, Array.replicate_zero, List.push_toArray, List.append_toArray, List.nil_append, List.cons_append]
  gi_upto_region 2 with fail
  generalize hW0 : (W.alloc (.cells #[.int .u64 (a.toNat : Int), .int .u64 (b.toNat : Int), .int .u64 (c.toNat : Int), .int .u64 (d.toNat : Int)] 41)).alloc (.cells #[.string ⟨#[91]⟩] 9) = W0
  have s0 : Blk W0 W.heap.size ⟨a, b, c, d⟩ := by rw [← hW0]; exact (Blk.new W ⟨a, b, c, d⟩).alloc _
  have s1 : CBlk 9 W0 (W.heap.size + 1) [.string ⟨#[91]⟩] := by
    rw [← hW0]
    have := CBlk.new 9 (W.alloc (.cells #[.int .u64 (a.toNat : Int), .int .u64 (b.toNat : Int), .int .u64 (c.toNat : Int), .int .u64 (d.toNat : Int)] 41)) [.string ⟨#[91]⟩]
    rwa [World.size_alloc] at this
  have hB0 : Below W.heap.size W W0 := by rw [← hW0]; exact ((Below.refl _ W).alloc (Nat.le_refl _) _).alloc (by simp) _
  have hz0 : W0.heap.size = W.heap.size + 2 := by rw [← hW0]; simp
  obtain ⟨c0, c1, c2, c3⟩ := s0.cells
  clear hW0
  gi_wp2_with fail
  refine ⟨(fun h => by cases h), (callsIn_wide.2 (HRU.out _)).mono ?_⟩
  rintro e w' ⟨rfl, rfl⟩
  generalize hX3 : W0.alloc (.cells #[.int .u64 (a.toNat : Int), .int .u64 (b.toNat : Int), .int .u64 (c.toNat : Int), .int .u64 (d.toNat : Int)] 41) = X3
  have g1 : CBlk 9 X3 (W.heap.size + 1) [.string ⟨#[91]⟩] := by rw [← hX3]; exact s1.alloc _
  have g4 : Blk X3 W0.heap.size ⟨a, b, c, d⟩ := by rw [← hX3]; exact Blk.new W0 ⟨a, b, c, d⟩
  rw [hz0] at g4
  have hB3 : Below W.heap.size W X3 := by rw [← hX3]; exact hB0.alloc (by omega) _
  have hz3 : X3.heap.size = W0.heap.size + 1 := by rw [← hX3]; simp
  have hT3 : Tab X3 := hT.below hB3 h0w
  have HB3 := Lib.hid hB3
  have G1 := Lib.hid g1
  clear hX3 s0 s1 c0 c1 c2 c3 hB0 hB3 g1
  gi_wp2_with fail
  refine rangeA (fid := 114) (lb := #[.pointer (some ⟨W.heap.size + 2, 0, none⟩)]) (E := runsE R) (ks := fun _ => False)
    rfl (enters_of Tryz.func114 (by kernel_rfl) rfl) (fun j hj => by simp [runsE]) ?iter (fun k hk => hk.elim)
    (CtI R W X3.heap.size) (fun _ => False) ?hI ?hIx ?h0 ?round ?done ?stop
  case iter =>
    have := runs_iter ⟨a, b, c, d⟩ (W.heap.size + 2) (fun _ => False) X3 hT3 (by omega) g4
    rw [hR] at this
    exact this
  case hI =>
    rintro j X X' row ⟨y0, y3, y4⟩ hg hr
    have hne : ∀ i, i < X3.heap.size → some i ≠ row := fun i hi e => by have := (hr i e.symm); omega
    exact ⟨y0.kept hg (hne _ (by omega)), y3.grown hg (by omega) (fun r e => by have := hr r e; omega), Nat.le_trans y4 hg.size⟩
  case hIx => exact fun X X' row h => h.elim
  case h0 => exact ⟨G1.out, HB3.out, Nat.le_refl _⟩
  case done =>
    rintro X ⟨y0, y3, y4⟩ hz hD
    rw [show (runsE R).length = R.length from List.length_map _] at y0
    obtain ⟨T, hTT⟩ : ∃ T, ctT R R.length = T := ⟨_, rfl⟩
    have hTl : T.length ≤ 2000 := by
      rw [← hTT]
      unfold ctT
      have := flat_len (R.take R.length)
      simp only [List.length_append, List.length_cons, List.length_nil]
      rw [List.length_take] at this
      omega
    rw [hTT] at y0 HRES
    have HD := Lib.hid hD
    have Y3 := Lib.hid y3
    have c0 := y0.cell1
    have k3 : ∀ w : World, (Op.stringOp .add ⟨T.toArray⟩ ⟨#[93]⟩).run Tryz.prog w = .ok (.string ⟨(T ++ [93]).toArray⟩) w := fun w => jstr_add _ [93] (by simp; omega)
    clear g4 hD y0 y3 hTT
    gi_wp2_with fail
    have hgp := grownBy_putObj' X X3.heap.size (.deferred none)
    refine ⟨by simp, .inl ⟨_, _, rfl, run_takeDeferred HD.out, ?_⟩⟩
    exact ⟨_, results_tmp rfl _ _ _, by rw [HRES.out]; rfl, Y3.out.grown hgp (by omega) (fun r hr => by injection hr; omega)⟩
  case stop => exact fun X h => h.elim
  case round =>
    rintro j hj m X ⟨y0, y3, y4⟩ hz
    have hjR : j < R.length := by rw [show (runsE R).length = R.length from List.length_map _] at hj; exact hj
    obtain ⟨r, hr⟩ : ∃ r, R[j] = r := ⟨_, rfl⟩
    have hEj : (runsE R)[j] = #[.agg #[.int .u8 (r.1 : Int), .int .u8 (r.2 : Int)]] := by
      have h : (runsE R)[j]? = some #[.agg #[.int .u8 (r.1 : Int), .int .u8 (r.2 : Int)]] := by
        unfold runsE
        rw [List.getElem?_map, List.getElem?_eq_getElem hjR, hr]
        rfl
      rw [List.getElem?_eq_getElem hj] at h
      injection h
    obtain ⟨hr1, hr2⟩ := hRt r (by rw [← hr]; exact List.getElem_mem _)
    rw [hEj]
    obtain ⟨lo, hlo⟩ : ∃ x, UInt8.ofNat r.1 = x := ⟨_, rfl⟩
    obtain ⟨hi, hhi⟩ : ∃ x, UInt8.ofNat r.2 = x := ⟨_, rfl⟩
    have e1 : r.1 = lo.toNat := by rw [← hlo]; simp; omega
    have e2 : r.2 = hi.toNat := by rw [← hhi]; simp; omega
    rw [e1, e2]
    obtain ⟨T, hTT⟩ : ∃ T, ctT R j = T := ⟨_, rfl⟩
    have hTl : T.length ≤ 2000 := by
      rw [← hTT]
      unfold ctT
      have := flat_len (R.take j)
      simp only [List.length_append, List.length_cons, List.length_nil]
      rw [List.length_take] at this
      omega
    have HLEN := Lib.hid hTl
    have hTJ : ctT R (j + 1) = T ++ runT (lo.toNat, hi.toNat) := by
      rw [← hTT, ← e1, ← e2]
      unfold ctT
      rw [List.take_add_one, List.getElem?_eq_getElem hjR, hr, List.append_assoc]
      simp
    have HTJ0 := Lib.hid hTJ
    rw [hTT] at y0
    have Y0 := Lib.hid y0
    have Y3 := Lib.hid y3
    clear g4 hr hEj hr1 hr2 e1 e2 hTT hTJ y0 y3 hTl hj hlo hhi hR hRt hRl
    gi_wp2_with fail
    have hzX := hz
    refine ⟨(Below.refl _ X).alloc (Nat.le_refl _) _, ?_⟩
    intro w2 hg2
    have hz2 := hg2.size
    rw [World.size_alloc] at hz2
    have HC0 : Hid (CSt W w2 X3.heap.size X.heap.size lo hi T w2) := Lib.hid ⟨(Y0.out.alloc _).kept hg2 (fun e => by injection e; omega), (CBlk.new _ X _).kept hg2 (fun e => by injection e; omega), (Y3.out.alloc (by omega) _).grown hg2 (by simp; omega) (fun r e => by injection e; omega), KeepsAt.refl _ _, Nat.le_refl _⟩
    have hNB : W.heap.size + 1 < X3.heap.size ∧ X3.heap.size ≤ X.heap.size := by omega
    obtain ⟨q1, hq1⟩ : ∃ q, decide (1 < (hi.toNat + 256 - lo.toNat) % 256) = q := ⟨_, rfl⟩
    obtain ⟨q2, hq2⟩ : ∃ q, decide (lo.toNat < hi.toNat) = q := ⟨_, rfl⟩
    have hlo := lo.toNat_lt
    have hhi := hi.toNat_lt
    have d1 : decide ((1 : Int) < ((hi.toNat : Int) - (lo.toNat : Int)) % 256) = q1 := by
      rw [← hq1]; congr 1; apply propext; omega
    have d2 : decide ((lo.toNat : Int) < (hi.toNat : Int)) = q2 := by
      rw [← hq2]; congr 1; apply propext; omega
    obtain ⟨QL, hQL⟩ : ∃ Q, quo [94, 93, 45, 92] lo = Q := ⟨_, rfl⟩
    obtain ⟨QH, hQH⟩ : ∃ Q, quo [94, 93, 45, 92] hi = Q := ⟨_, rfl⟩
    have HQL := Lib.hid fun w => quoted_any lo [94, 93, 45, 92] w
    have HQH := Lib.hid fun w => quoted_any hi [94, 93, 45, 92] w
    rw [hQL] at HQL
    rw [hQH] at HQH
    have hT : ctT R (j + 1) = T ++ (QL ++ ((if q1 = true then [45] else []) ++ (if q2 = true then QH else []))) := by
      rw [HTJ0.out]
      unfold runT
      dsimp only
      rw [UInt8.ofNat_toNat, UInt8.ofNat_toNat, hQL, hQH, ← hq1, ← hq2]
      simp only [decide_eq_true_eq]
    obtain ⟨T1, hT1⟩ : ∃ T1, T ++ QL = T1 := ⟨_, rfl⟩
    obtain ⟨T2, hT2⟩ : ∃ T2, T1 ++ [45] = T2 := ⟨_, rfl⟩
    have HLEN : Hid (T.length ≤ 2000 ∧ QL.length ≤ 2 ∧ QH.length ≤ 2 ∧ T1.length ≤ 2002 ∧ T2.length ≤ 2003) := by
      have h1 := (quo_len [94, 93, 45, 92] lo).2
      have h2 := (quo_len [94, 93, 45, 92] hi).2
      have h3 := HLEN.out
      rw [hQL] at h1
      rw [hQH] at h2
      refine Lib.hid ⟨h3, h1, h2, ?_, ?_⟩
      · rw [← hT1, List.length_append]; omega
      · rw [← hT2, List.length_append, ← hT1, List.length_append, List.length_singleton]; omega
    have HTJ1 := Lib.hid hT
    have HT1 := Lib.hid hT1
    have HT2 := Lib.hid hT2
    clear hg2 hq1 hQL hQH hT hT1 hT2
    gi_wp2_with fail
    have tc := HC0.out.1.drew.cell1
    have rc := HC0.out.2.1.drew.cell 0 (by simp)
    have k4 : ∀ w : World, (Op.stringOp .add ⟨(T).toArray⟩ ⟨QL.toArray⟩).run Tryz.prog w = .ok (.string ⟨(T ++ QL).toArray⟩) w := fun w => jstr_add _ _ (by have := HLEN.out; omega)
    apply region_post (C := CSt W w2 X3.heap.size X.heap.size lo hi (T ++ QL)) rfl (by kernel_rfl) (by kernel_rfl)
    case h =>
      change wpAnyIn _ _ _ _ _ _ _ _ _ (World.drew _)
      refine wpAnyIn_ready (rs := [0, 1]) (by kernel_rfl) (by simp) ?_
      refine (AllReadyIn.cons rfl (fun K hK => ?_) (AllReadyIn.cons rfl (fun K hK => ?_) AllReadyIn.nil))
      · go_simp
        refine hK _ _ ?_
        clear hK K
        try simp only [Act.put, List.getElem_toArray, List.getElem_cons_succ, List.getElem_cons_zero, List.setIfInBounds_toArray, List.set_cons_zero, List.set_cons_succ]
        refine wpAnyIn_ready (rs := [1]) (by kernel_rfl) (by simp) ?_
        refine (AllReadyIn.cons rfl (fun K hK => ?_) AllReadyIn.nil)
        go_simp
        refine hK _ _ ?_
        clear hK K
        try simp only [Act.put, List.getElem_toArray, List.getElem_cons_succ, List.getElem_cons_zero, List.setIfInBounds_toArray, List.set_cons_zero, List.set_cons_succ]
        refine wpAnyIn_ready (rs := [2]) (by kernel_rfl) (by simp) ?_
        refine (AllReadyIn.cons rfl (fun K hK => ?_) AllReadyIn.nil)
        go_simp
        refine hK _ _ ?_
        clear hK K
        try simp only [Act.put, List.getElem_toArray, List.getElem_cons_succ, List.getElem_cons_zero, List.setIfInBounds_toArray, List.set_cons_zero, List.set_cons_succ]
        refine wpAnyIn_ready (rs := [3]) (by kernel_rfl) (by simp) ?_
        refine (AllReadyIn.cons rfl (fun K hK => ?_) AllReadyIn.nil)
        go_simp
        refine ⟨(fun h => by cases h), (callsIn_wide.2 (HQL.out _)).mono ?_⟩
        rintro e wq ⟨rfl, hbq⟩
        have HQ := Lib.hid (CSt.below HC0.out.drew hbq)
        have tc := HQ.out.1.cell1
        have tf := HQ.out.1.free 0
        clear hbq
        dsimp only
        refine hK _ _ ?_
        clear hK K
        try simp only [Act.put, List.getElem_toArray, List.getElem_cons_succ, List.getElem_cons_zero, List.setIfInBounds_toArray, List.set_cons_zero, List.set_cons_succ]
        refine wpAnyIn_ready (rs := [4]) (by kernel_rfl) (by simp) ?_
        refine (AllReadyIn.cons rfl (fun K hK => ?_) AllReadyIn.nil)
        go_simp
        refine hK _ _ ?_
        clear hK K
        try simp only [Act.put, List.getElem_toArray, List.getElem_cons_succ, List.getElem_cons_zero, List.setIfInBounds_toArray, List.set_cons_zero, List.set_cons_succ]
        refine wpAnyIn_ready (rs := [5]) (by kernel_rfl) (by simp) ?_
        refine (AllReadyIn.cons rfl (fun K hK => ?_) AllReadyIn.nil)
        go_simp
        refine hK _ _ ?_
        clear hK K
        try simp only [Act.put, List.getElem_toArray, List.getElem_cons_succ, List.getElem_cons_zero, List.setIfInBounds_toArray, List.set_cons_zero, List.set_cons_succ]
        refine wpAnyIn_done (by kernel_rfl) ?_ _
        exact ⟨rfl, rfl, HQ.out.set (T ++ QL) hNB.1 hNB.2⟩
      · go_simp
        refine hK _ _ ?_
        clear hK K
        try simp only [Act.put, List.getElem_toArray, List.getElem_cons_succ, List.getElem_cons_zero, List.setIfInBounds_toArray, List.set_cons_zero, List.set_cons_succ]
        refine wpAnyIn_ready (rs := [0, 2]) (by kernel_rfl) (by simp) ?_
        refine (AllReadyIn.cons rfl (fun K hK => ?_) (AllReadyIn.cons rfl (fun K hK => ?_) AllReadyIn.nil))
        · go_simp
          refine hK _ _ ?_
          clear hK K
          try simp only [Act.put, List.getElem_toArray, List.getElem_cons_succ, List.getElem_cons_zero, List.setIfInBounds_toArray, List.set_cons_zero, List.set_cons_succ]
          refine wpAnyIn_ready (rs := [2]) (by kernel_rfl) (by simp) ?_
          refine (AllReadyIn.cons rfl (fun K hK => ?_) AllReadyIn.nil)
          go_simp
          refine hK _ _ ?_
          clear hK K
          try simp only [Act.put, List.getElem_toArray, List.getElem_cons_succ, List.getElem_cons_zero, List.setIfInBounds_toArray, List.set_cons_zero, List.set_cons_succ]
          refine wpAnyIn_ready (rs := [3]) (by kernel_rfl) (by simp) ?_
          refine (AllReadyIn.cons rfl (fun K hK => ?_) AllReadyIn.nil)
          go_simp
          refine ⟨(fun h => by cases h), (callsIn_wide.2 (HQL.out _)).mono ?_⟩
          rintro e wq ⟨rfl, hbq⟩
          have HQ := Lib.hid (CSt.below HC0.out.drew hbq)
          have tc := HQ.out.1.cell1
          have tf := HQ.out.1.free 0
          clear hbq
          dsimp only
          refine hK _ _ ?_
          clear hK K
          try simp only [Act.put, List.getElem_toArray, List.getElem_cons_succ, List.getElem_cons_zero, List.setIfInBounds_toArray, List.set_cons_zero, List.set_cons_succ]
          refine wpAnyIn_ready (rs := [4]) (by kernel_rfl) (by simp) ?_
          refine (AllReadyIn.cons rfl (fun K hK => ?_) AllReadyIn.nil)
          go_simp
          refine hK _ _ ?_
          clear hK K
          try simp only [Act.put, List.getElem_toArray, List.getElem_cons_succ, List.getElem_cons_zero, List.setIfInBounds_toArray, List.set_cons_zero, List.set_cons_succ]
          refine wpAnyIn_ready (rs := [5]) (by kernel_rfl) (by simp) ?_
          refine (AllReadyIn.cons rfl (fun K hK => ?_) AllReadyIn.nil)
          go_simp
          refine hK _ _ ?_
          clear hK K
          try simp only [Act.put, List.getElem_toArray, List.getElem_cons_succ, List.getElem_cons_zero, List.setIfInBounds_toArray, List.set_cons_zero, List.set_cons_succ]
          refine wpAnyIn_done (by kernel_rfl) ?_ _
          exact ⟨rfl, rfl, HQ.out.set (T ++ QL) hNB.1 hNB.2⟩
        · go_simp
          refine hK _ _ ?_
          clear hK K
          try simp only [Act.put, List.getElem_toArray, List.getElem_cons_succ, List.getElem_cons_zero, List.setIfInBounds_toArray, List.set_cons_zero, List.set_cons_succ]
          refine wpAnyIn_ready (rs := [0, 3]) (by kernel_rfl) (by simp) ?_
          refine (AllReadyIn.cons rfl (fun K hK => ?_) (AllReadyIn.cons rfl (fun K hK => ?_) AllReadyIn.nil))
          · go_simp
            refine hK _ _ ?_
            clear hK K
            try simp only [Act.put, List.getElem_toArray, List.getElem_cons_succ, List.getElem_cons_zero, List.setIfInBounds_toArray, List.set_cons_zero, List.set_cons_succ]
            refine wpAnyIn_ready (rs := [3]) (by kernel_rfl) (by simp) ?_
            refine (AllReadyIn.cons rfl (fun K hK => ?_) AllReadyIn.nil)
            go_simp
            refine ⟨(fun h => by cases h), (callsIn_wide.2 (HQL.out _)).mono ?_⟩
            rintro e wq ⟨rfl, hbq⟩
            have HQ := Lib.hid (CSt.below HC0.out.drew hbq)
            have tc := HQ.out.1.cell1
            have tf := HQ.out.1.free 0
            clear hbq
            dsimp only
            refine hK _ _ ?_
            clear hK K
            try simp only [Act.put, List.getElem_toArray, List.getElem_cons_succ, List.getElem_cons_zero, List.setIfInBounds_toArray, List.set_cons_zero, List.set_cons_succ]
            refine wpAnyIn_ready (rs := [4]) (by kernel_rfl) (by simp) ?_
            refine (AllReadyIn.cons rfl (fun K hK => ?_) AllReadyIn.nil)
            go_simp
            refine hK _ _ ?_
            clear hK K
            try simp only [Act.put, List.getElem_toArray, List.getElem_cons_succ, List.getElem_cons_zero, List.setIfInBounds_toArray, List.set_cons_zero, List.set_cons_succ]
            refine wpAnyIn_ready (rs := [5]) (by kernel_rfl) (by simp) ?_
            refine (AllReadyIn.cons rfl (fun K hK => ?_) AllReadyIn.nil)
            go_simp
            refine hK _ _ ?_
            clear hK K
            try simp only [Act.put, List.getElem_toArray, List.getElem_cons_succ, List.getElem_cons_zero, List.setIfInBounds_toArray, List.set_cons_zero, List.set_cons_succ]
            refine wpAnyIn_done (by kernel_rfl) ?_ _
            exact ⟨rfl, rfl, HQ.out.set (T ++ QL) hNB.1 hNB.2⟩
          · go_simp
            refine ⟨(fun h => by cases h), (callsIn_wide.2 (HQL.out _)).mono ?_⟩
            rintro e wq ⟨rfl, hbq⟩
            have HQ := Lib.hid (CSt.below HC0.out.drew hbq)
            have tc := HQ.out.1.cell1
            have tf := HQ.out.1.free 0
            clear hbq
            dsimp only
            refine hK _ _ ?_
            clear hK K
            try simp only [Act.put, List.getElem_toArray, List.getElem_cons_succ, List.getElem_cons_zero, List.setIfInBounds_toArray, List.set_cons_zero, List.set_cons_succ]
            refine wpAnyIn_ready (rs := [0]) (by kernel_rfl) (by simp) ?_
            refine (AllReadyIn.cons rfl (fun K hK => ?_) AllReadyIn.nil)
            go_simp
            refine hK _ _ ?_
            clear hK K
            try simp only [Act.put, List.getElem_toArray, List.getElem_cons_succ, List.getElem_cons_zero, List.setIfInBounds_toArray, List.set_cons_zero, List.set_cons_succ]
            refine wpAnyIn_ready (rs := [4]) (by kernel_rfl) (by simp) ?_
            refine (AllReadyIn.cons rfl (fun K hK => ?_) AllReadyIn.nil)
            go_simp
            refine hK _ _ ?_
            clear hK K
            try simp only [Act.put, List.getElem_toArray, List.getElem_cons_succ, List.getElem_cons_zero, List.setIfInBounds_toArray, List.set_cons_zero, List.set_cons_succ]
            refine wpAnyIn_ready (rs := [5]) (by kernel_rfl) (by simp) ?_
            refine (AllReadyIn.cons rfl (fun K hK => ?_) AllReadyIn.nil)
            go_simp
            refine hK _ _ ?_
            clear hK K
            try simp only [Act.put, List.getElem_toArray, List.getElem_cons_succ, List.getElem_cons_zero, List.setIfInBounds_toArray, List.set_cons_zero, List.set_cons_succ]
            refine wpAnyIn_done (by kernel_rfl) ?_ _
            exact ⟨rfl, rfl, HQ.out.set (T ++ QL) hNB.1 hNB.2⟩
    case k =>
      clear tc rc k4
      intro Z hF
      rw [HT1.out] at hF
      have HC1 := Lib.hid hF
      have r0 := hF.2.1.cell 0 (by simp)
      have r1 := hF.2.1.cell 1 (by simp)
      have tc := hF.1.cell1
      have tf := hF.1.free 0
      cases q1 with
      | false =>
        cases q2 with
        | false =>
          have HTJ : Hid (ctT R (j + 1) = T1) := Lib.hid (by rw [HTJ1.out]; simp [← HT1.out])
          gi_wp2_with fail
          exact ⟨⟨hF.2.2.2.1 _ (by have := hF.2.2.2.2; omega), hF.2.2.2.1 _ (by have := hF.2.2.2.2; omega)⟩, hF.2.2.2.1.mono' (fun i hi => by rcases hi with h | h; exact h.elim; omega), hF.2.2.2.2, by rw [HTJ.out]; exact hF.1, hF.2.2.1, by have := hF.2.2.2.2; omega⟩
        | true =>
          have HTJ : Hid (ctT R (j + 1) = T1 ++ QH) := Lib.hid (by rw [HTJ1.out]; simp [← HT1.out])
          gi_wp2_with fail
          clear r0 r1 hF
          clear tc tf
          have tc := HC1.out.1.drew.cell1
          have rc := HC1.out.2.1.drew.cell 1 (by simp)
          have k4 : ∀ w : World, (Op.stringOp .add ⟨(T1).toArray⟩ ⟨QH.toArray⟩).run Tryz.prog w = .ok (.string ⟨(T1 ++ QH).toArray⟩) w := fun w => jstr_add _ _ (by have := HLEN.out; omega)
          apply region_post (C := CSt W w2 X3.heap.size X.heap.size lo hi (T1 ++ QH)) rfl (by kernel_rfl) (by kernel_rfl)
          case h =>
            change wpAnyIn _ _ _ _ _ _ _ _ _ (World.drew _)
            refine wpAnyIn_ready (rs := [0, 1]) (by kernel_rfl) (by simp) ?_
            refine (AllReadyIn.cons rfl (fun K hK => ?_) (AllReadyIn.cons rfl (fun K hK => ?_) AllReadyIn.nil))
            · go_simp
              refine hK _ _ ?_
              clear hK K
              try simp only [Act.put, List.getElem_toArray, List.getElem_cons_succ, List.getElem_cons_zero, List.setIfInBounds_toArray, List.set_cons_zero, List.set_cons_succ]
              refine wpAnyIn_ready (rs := [1]) (by kernel_rfl) (by simp) ?_
              refine (AllReadyIn.cons rfl (fun K hK => ?_) AllReadyIn.nil)
              go_simp
              refine hK _ _ ?_
              clear hK K
              try simp only [Act.put, List.getElem_toArray, List.getElem_cons_succ, List.getElem_cons_zero, List.setIfInBounds_toArray, List.set_cons_zero, List.set_cons_succ]
              refine wpAnyIn_ready (rs := [2]) (by kernel_rfl) (by simp) ?_
              refine (AllReadyIn.cons rfl (fun K hK => ?_) AllReadyIn.nil)
              go_simp
              refine hK _ _ ?_
              clear hK K
              try simp only [Act.put, List.getElem_toArray, List.getElem_cons_succ, List.getElem_cons_zero, List.setIfInBounds_toArray, List.set_cons_zero, List.set_cons_succ]
              refine wpAnyIn_ready (rs := [3]) (by kernel_rfl) (by simp) ?_
              refine (AllReadyIn.cons rfl (fun K hK => ?_) AllReadyIn.nil)
              go_simp
              refine ⟨(fun h => by cases h), (callsIn_wide.2 (HQH.out _)).mono ?_⟩
              rintro e wq ⟨rfl, hbq⟩
              have HQ := Lib.hid (CSt.below HC1.out.drew hbq)
              have tc := HQ.out.1.cell1
              have tf := HQ.out.1.free 0
              clear hbq
              dsimp only
              refine hK _ _ ?_
              clear hK K
              try simp only [Act.put, List.getElem_toArray, List.getElem_cons_succ, List.getElem_cons_zero, List.setIfInBounds_toArray, List.set_cons_zero, List.set_cons_succ]
              refine wpAnyIn_ready (rs := [4]) (by kernel_rfl) (by simp) ?_
              refine (AllReadyIn.cons rfl (fun K hK => ?_) AllReadyIn.nil)
              go_simp
              refine hK _ _ ?_
              clear hK K
              try simp only [Act.put, List.getElem_toArray, List.getElem_cons_succ, List.getElem_cons_zero, List.setIfInBounds_toArray, List.set_cons_zero, List.set_cons_succ]
              refine wpAnyIn_ready (rs := [5]) (by kernel_rfl) (by simp) ?_
              refine (AllReadyIn.cons rfl (fun K hK => ?_) AllReadyIn.nil)
              go_simp
              refine hK _ _ ?_
              clear hK K
              try simp only [Act.put, List.getElem_toArray, List.getElem_cons_succ, List.getElem_cons_zero, List.setIfInBounds_toArray, List.set_cons_zero, List.set_cons_succ]
              refine wpAnyIn_done (by kernel_rfl) ?_ _
              exact ⟨rfl, rfl, HQ.out.set (T1 ++ QH) hNB.1 hNB.2⟩
            · go_simp
              refine hK _ _ ?_
              clear hK K
              try simp only [Act.put, List.getElem_toArray, List.getElem_cons_succ, List.getElem_cons_zero, List.setIfInBounds_toArray, List.set_cons_zero, List.set_cons_succ]
              refine wpAnyIn_ready (rs := [0, 2]) (by kernel_rfl) (by simp) ?_
              refine (AllReadyIn.cons rfl (fun K hK => ?_) (AllReadyIn.cons rfl (fun K hK => ?_) AllReadyIn.nil))
              · go_simp
                refine hK _ _ ?_
                clear hK K
                try simp only [Act.put, List.getElem_toArray, List.getElem_cons_succ, List.getElem_cons_zero, List.setIfInBounds_toArray, List.set_cons_zero, List.set_cons_succ]
                refine wpAnyIn_ready (rs := [2]) (by kernel_rfl) (by simp) ?_
                refine (AllReadyIn.cons rfl (fun K hK => ?_) AllReadyIn.nil)
                go_simp
                refine hK _ _ ?_
                clear hK K
                try simp only [Act.put, List.getElem_toArray, List.getElem_cons_succ, List.getElem_cons_zero, List.setIfInBounds_toArray, List.set_cons_zero, List.set_cons_succ]
                refine wpAnyIn_ready (rs := [3]) (by kernel_rfl) (by simp) ?_
                refine (AllReadyIn.cons rfl (fun K hK => ?_) AllReadyIn.nil)
                go_simp
                refine ⟨(fun h => by cases h), (callsIn_wide.2 (HQH.out _)).mono ?_⟩
                rintro e wq ⟨rfl, hbq⟩
                have HQ := Lib.hid (CSt.below HC1.out.drew hbq)
                have tc := HQ.out.1.cell1
                have tf := HQ.out.1.free 0
                clear hbq
                dsimp only
                refine hK _ _ ?_
                clear hK K
                try simp only [Act.put, List.getElem_toArray, List.getElem_cons_succ, List.getElem_cons_zero, List.setIfInBounds_toArray, List.set_cons_zero, List.set_cons_succ]
                refine wpAnyIn_ready (rs := [4]) (by kernel_rfl) (by simp) ?_
                refine (AllReadyIn.cons rfl (fun K hK => ?_) AllReadyIn.nil)
                go_simp
                refine hK _ _ ?_
                clear hK K
                try simp only [Act.put, List.getElem_toArray, List.getElem_cons_succ, List.getElem_cons_zero, List.setIfInBounds_toArray, List.set_cons_zero, List.set_cons_succ]
                refine wpAnyIn_ready (rs := [5]) (by kernel_rfl) (by simp) ?_
                refine (AllReadyIn.cons rfl (fun K hK => ?_) AllReadyIn.nil)
                go_simp
                refine hK _ _ ?_
                clear hK K
                try simp only [Act.put, List.getElem_toArray, List.getElem_cons_succ, List.getElem_cons_zero, List.setIfInBounds_toArray, List.set_cons_zero, List.set_cons_succ]
                refine wpAnyIn_done (by kernel_rfl) ?_ _
                exact ⟨rfl, rfl, HQ.out.set (T1 ++ QH) hNB.1 hNB.2⟩
              · go_simp
                refine hK _ _ ?_
                clear hK K
                try simp only [Act.put, List.getElem_toArray, List.getElem_cons_succ, List.getElem_cons_zero, List.setIfInBounds_toArray, List.set_cons_zero, List.set_cons_succ]
                refine wpAnyIn_ready (rs := [0, 3]) (by kernel_rfl) (by simp) ?_
                refine (AllReadyIn.cons rfl (fun K hK => ?_) (AllReadyIn.cons rfl (fun K hK => ?_) AllReadyIn.nil))
                · go_simp
                  refine hK _ _ ?_
                  clear hK K
                  try simp only [Act.put, List.getElem_toArray, List.getElem_cons_succ, List.getElem_cons_zero, List.setIfInBounds_toArray, List.set_cons_zero, List.set_cons_succ]
                  refine wpAnyIn_ready (rs := [3]) (by kernel_rfl) (by simp) ?_
                  refine (AllReadyIn.cons rfl (fun K hK => ?_) AllReadyIn.nil)
                  go_simp
                  refine ⟨(fun h => by cases h), (callsIn_wide.2 (HQH.out _)).mono ?_⟩
                  rintro e wq ⟨rfl, hbq⟩
                  have HQ := Lib.hid (CSt.below HC1.out.drew hbq)
                  have tc := HQ.out.1.cell1
                  have tf := HQ.out.1.free 0
                  clear hbq
                  dsimp only
                  refine hK _ _ ?_
                  clear hK K
                  try simp only [Act.put, List.getElem_toArray, List.getElem_cons_succ, List.getElem_cons_zero, List.setIfInBounds_toArray, List.set_cons_zero, List.set_cons_succ]
                  refine wpAnyIn_ready (rs := [4]) (by kernel_rfl) (by simp) ?_
                  refine (AllReadyIn.cons rfl (fun K hK => ?_) AllReadyIn.nil)
                  go_simp
                  refine hK _ _ ?_
                  clear hK K
                  try simp only [Act.put, List.getElem_toArray, List.getElem_cons_succ, List.getElem_cons_zero, List.setIfInBounds_toArray, List.set_cons_zero, List.set_cons_succ]
                  refine wpAnyIn_ready (rs := [5]) (by kernel_rfl) (by simp) ?_
                  refine (AllReadyIn.cons rfl (fun K hK => ?_) AllReadyIn.nil)
                  go_simp
                  refine hK _ _ ?_
                  clear hK K
                  try simp only [Act.put, List.getElem_toArray, List.getElem_cons_succ, List.getElem_cons_zero, List.setIfInBounds_toArray, List.set_cons_zero, List.set_cons_succ]
                  refine wpAnyIn_done (by kernel_rfl) ?_ _
                  exact ⟨rfl, rfl, HQ.out.set (T1 ++ QH) hNB.1 hNB.2⟩
                · go_simp
                  refine ⟨(fun h => by cases h), (callsIn_wide.2 (HQH.out _)).mono ?_⟩
                  rintro e wq ⟨rfl, hbq⟩
                  have HQ := Lib.hid (CSt.below HC1.out.drew hbq)
                  have tc := HQ.out.1.cell1
                  have tf := HQ.out.1.free 0
                  clear hbq
                  dsimp only
                  refine hK _ _ ?_
                  clear hK K
                  try simp only [Act.put, List.getElem_toArray, List.getElem_cons_succ, List.getElem_cons_zero, List.setIfInBounds_toArray, List.set_cons_zero, List.set_cons_succ]
                  refine wpAnyIn_ready (rs := [0]) (by kernel_rfl) (by simp) ?_
                  refine (AllReadyIn.cons rfl (fun K hK => ?_) AllReadyIn.nil)
                  go_simp
                  refine hK _ _ ?_
                  clear hK K
                  try simp only [Act.put, List.getElem_toArray, List.getElem_cons_succ, List.getElem_cons_zero, List.setIfInBounds_toArray, List.set_cons_zero, List.set_cons_succ]
                  refine wpAnyIn_ready (rs := [4]) (by kernel_rfl) (by simp) ?_
                  refine (AllReadyIn.cons rfl (fun K hK => ?_) AllReadyIn.nil)
                  go_simp
                  refine hK _ _ ?_
                  clear hK K
                  try simp only [Act.put, List.getElem_toArray, List.getElem_cons_succ, List.getElem_cons_zero, List.setIfInBounds_toArray, List.set_cons_zero, List.set_cons_succ]
                  refine wpAnyIn_ready (rs := [5]) (by kernel_rfl) (by simp) ?_
                  refine (AllReadyIn.cons rfl (fun K hK => ?_) AllReadyIn.nil)
                  go_simp
                  refine hK _ _ ?_
                  clear hK K
                  try simp only [Act.put, List.getElem_toArray, List.getElem_cons_succ, List.getElem_cons_zero, List.setIfInBounds_toArray, List.set_cons_zero, List.set_cons_succ]
                  refine wpAnyIn_done (by kernel_rfl) ?_ _
                  exact ⟨rfl, rfl, HQ.out.set (T1 ++ QH) hNB.1 hNB.2⟩
          case k =>
            clear tc rc k4
            intro Z3 hF
            gi_wp2_with fail
            exact ⟨⟨hF.2.2.2.1 _ (by have := hF.2.2.2.2; omega), hF.2.2.2.1 _ (by have := hF.2.2.2.2; omega)⟩, hF.2.2.2.1.mono' (fun i hi => by rcases hi with h | h; exact h.elim; omega), hF.2.2.2.2, by rw [HTJ.out]; exact hF.1, hF.2.2.1, by have := hF.2.2.2.2; omega⟩
      | true =>
        have k3 : ∀ w : World, (Op.stringOp .add ⟨T1.toArray⟩ ⟨#[45]⟩).run Tryz.prog w = .ok (.string ⟨T2.toArray⟩) w := fun w => HT2.out ▸ jstr_add T1 [45] (by have := HLEN.out; simp only [List.length_cons, List.length_nil]; omega)
        gi_upto_region 7 with fail
        have hF := HC1.out.set T2 hNB.1 hNB.2
        generalize hZ2 : Z.setCell ⟨W.heap.size + 1, 0, none⟩ (.string ⟨T2.toArray⟩) = Z2 at hF ⊢
        have HC2 := Lib.hid hF
        clear hZ2 tc tf r0 r1 k3
        have r0 := HC2.out.2.1.cell 0 (by simp)
        have r1 := HC2.out.2.1.cell 1 (by simp)
        cases q2 with
        | false =>
          have HTJ : Hid (ctT R (j + 1) = T2) := Lib.hid (by rw [HTJ1.out]; simp [← HT2.out, ← HT1.out])
          gi_wp2_with fail
          exact ⟨⟨hF.2.2.2.1 _ (by have := hF.2.2.2.2; omega), hF.2.2.2.1 _ (by have := hF.2.2.2.2; omega)⟩, hF.2.2.2.1.mono' (fun i hi => by rcases hi with h | h; exact h.elim; omega), hF.2.2.2.2, by rw [HTJ.out]; exact hF.1, hF.2.2.1, by have := hF.2.2.2.2; omega⟩
        | true =>
          have HTJ : Hid (ctT R (j + 1) = T2 ++ QH) := Lib.hid (by rw [HTJ1.out]; simp [← HT2.out, ← HT1.out])
          gi_wp2_with fail
          clear r0 r1 hF
          have tc := HC2.out.1.drew.cell1
          have rc := HC2.out.2.1.drew.cell 1 (by simp)
          have k4 : ∀ w : World, (Op.stringOp .add ⟨(T2).toArray⟩ ⟨QH.toArray⟩).run Tryz.prog w = .ok (.string ⟨(T2 ++ QH).toArray⟩) w := fun w => jstr_add _ _ (by have := HLEN.out; omega)
          apply region_post (C := CSt W w2 X3.heap.size X.heap.size lo hi (T2 ++ QH)) rfl (by kernel_rfl) (by kernel_rfl)
          case h =>
            change wpAnyIn _ _ _ _ _ _ _ _ _ (World.drew _)
            refine wpAnyIn_ready (rs := [0, 1]) (by kernel_rfl) (by simp) ?_
            refine (AllReadyIn.cons rfl (fun K hK => ?_) (AllReadyIn.cons rfl (fun K hK => ?_) AllReadyIn.nil))
            · go_simp
              refine hK _ _ ?_
              clear hK K
              try simp only [Act.put, List.getElem_toArray, List.getElem_cons_succ, List.getElem_cons_zero, List.setIfInBounds_toArray, List.set_cons_zero, List.set_cons_succ]
              refine wpAnyIn_ready (rs := [1]) (by kernel_rfl) (by simp) ?_
              refine (AllReadyIn.cons rfl (fun K hK => ?_) AllReadyIn.nil)
              go_simp
              refine hK _ _ ?_
              clear hK K
              try simp only [Act.put, List.getElem_toArray, List.getElem_cons_succ, List.getElem_cons_zero, List.setIfInBounds_toArray, List.set_cons_zero, List.set_cons_succ]
              refine wpAnyIn_ready (rs := [2]) (by kernel_rfl) (by simp) ?_
              refine (AllReadyIn.cons rfl (fun K hK => ?_) AllReadyIn.nil)
              go_simp
              refine hK _ _ ?_
              clear hK K
              try simp only [Act.put, List.getElem_toArray, List.getElem_cons_succ, List.getElem_cons_zero, List.setIfInBounds_toArray, List.set_cons_zero, List.set_cons_succ]
              refine wpAnyIn_ready (rs := [3]) (by kernel_rfl) (by simp) ?_
              refine (AllReadyIn.cons rfl (fun K hK => ?_) AllReadyIn.nil)
              go_simp
              refine ⟨(fun h => by cases h), (callsIn_wide.2 (HQH.out _)).mono ?_⟩
              rintro e wq ⟨rfl, hbq⟩
              have HQ := Lib.hid (CSt.below HC2.out.drew hbq)
              have tc := HQ.out.1.cell1
              have tf := HQ.out.1.free 0
              clear hbq
              dsimp only
              refine hK _ _ ?_
              clear hK K
              try simp only [Act.put, List.getElem_toArray, List.getElem_cons_succ, List.getElem_cons_zero, List.setIfInBounds_toArray, List.set_cons_zero, List.set_cons_succ]
              refine wpAnyIn_ready (rs := [4]) (by kernel_rfl) (by simp) ?_
              refine (AllReadyIn.cons rfl (fun K hK => ?_) AllReadyIn.nil)
              go_simp
              refine hK _ _ ?_
              clear hK K
              try simp only [Act.put, List.getElem_toArray, List.getElem_cons_succ, List.getElem_cons_zero, List.setIfInBounds_toArray, List.set_cons_zero, List.set_cons_succ]
              refine wpAnyIn_ready (rs := [5]) (by kernel_rfl) (by simp) ?_
              refine (AllReadyIn.cons rfl (fun K hK => ?_) AllReadyIn.nil)
              go_simp
              refine hK _ _ ?_
              clear hK K
              try simp only [Act.put, List.getElem_toArray, List.getElem_cons_succ, List.getElem_cons_zero, List.setIfInBounds_toArray, List.set_cons_zero, List.set_cons_succ]
              refine wpAnyIn_done (by kernel_rfl) ?_ _
              exact ⟨rfl, rfl, HQ.out.set (T2 ++ QH) hNB.1 hNB.2⟩
            · go_simp
              refine hK _ _ ?_
              clear hK K
              try simp only [Act.put, List.getElem_toArray, List.getElem_cons_succ, List.getElem_cons_zero, List.setIfInBounds_toArray, List.set_cons_zero, List.set_cons_succ]
              refine wpAnyIn_ready (rs := [0, 2]) (by kernel_rfl) (by simp) ?_
              refine (AllReadyIn.cons rfl (fun K hK => ?_) (AllReadyIn.cons rfl (fun K hK => ?_) AllReadyIn.nil))
              · go_simp
                refine hK _ _ ?_
                clear hK K
                try simp only [Act.put, List.getElem_toArray, List.getElem_cons_succ, List.getElem_cons_zero, List.setIfInBounds_toArray, List.set_cons_zero, List.set_cons_succ]
                refine wpAnyIn_ready (rs := [2]) (by kernel_rfl) (by simp) ?_
                refine (AllReadyIn.cons rfl (fun K hK => ?_) AllReadyIn.nil)
                go_simp
                refine hK _ _ ?_
                clear hK K
                try simp only [Act.put, List.getElem_toArray, List.getElem_cons_succ, List.getElem_cons_zero, List.setIfInBounds_toArray, List.set_cons_zero, List.set_cons_succ]
                refine wpAnyIn_ready (rs := [3]) (by kernel_rfl) (by simp) ?_
                refine (AllReadyIn.cons rfl (fun K hK => ?_) AllReadyIn.nil)
                go_simp
                refine ⟨(fun h => by cases h), (callsIn_wide.2 (HQH.out _)).mono ?_⟩
                rintro e wq ⟨rfl, hbq⟩
                have HQ := Lib.hid (CSt.below HC2.out.drew hbq)
                have tc := HQ.out.1.cell1
                have tf := HQ.out.1.free 0
                clear hbq
                dsimp only
                refine hK _ _ ?_
                clear hK K
                try simp only [Act.put, List.getElem_toArray, List.getElem_cons_succ, List.getElem_cons_zero, List.setIfInBounds_toArray, List.set_cons_zero, List.set_cons_succ]
                refine wpAnyIn_ready (rs := [4]) (by kernel_rfl) (by simp) ?_
                refine (AllReadyIn.cons rfl (fun K hK => ?_) AllReadyIn.nil)
                go_simp
                refine hK _ _ ?_
                clear hK K
                try simp only [Act.put, List.getElem_toArray, List.getElem_cons_succ, List.getElem_cons_zero, List.setIfInBounds_toArray, List.set_cons_zero, List.set_cons_succ]
                refine wpAnyIn_ready (rs := [5]) (by kernel_rfl) (by simp) ?_
                refine (AllReadyIn.cons rfl (fun K hK => ?_) AllReadyIn.nil)
                go_simp
                refine hK _ _ ?_
                clear hK K
                try simp only [Act.put, List.getElem_toArray, List.getElem_cons_succ, List.getElem_cons_zero, List.setIfInBounds_toArray, List.set_cons_zero, List.set_cons_succ]
                refine wpAnyIn_done (by kernel_rfl) ?_ _
                exact ⟨rfl, rfl, HQ.out.set (T2 ++ QH) hNB.1 hNB.2⟩
              · go_simp
                refine hK _ _ ?_
                clear hK K
                try simp only [Act.put, List.getElem_toArray, List.getElem_cons_succ, List.getElem_cons_zero, List.setIfInBounds_toArray, List.set_cons_zero, List.set_cons_succ]
                refine wpAnyIn_ready (rs := [0, 3]) (by kernel_rfl) (by simp) ?_
                refine (AllReadyIn.cons rfl (fun K hK => ?_) (AllReadyIn.cons rfl (fun K hK => ?_) AllReadyIn.nil))
                · go_simp
                  refine hK _ _ ?_
                  clear hK K
                  try simp only [Act.put, List.getElem_toArray, List.getElem_cons_succ, List.getElem_cons_zero, List.setIfInBounds_toArray, List.set_cons_zero, List.set_cons_succ]
                  refine wpAnyIn_ready (rs := [3]) (by kernel_rfl) (by simp) ?_
                  refine (AllReadyIn.cons rfl (fun K hK => ?_) AllReadyIn.nil)
                  go_simp
                  refine ⟨(fun h => by cases h), (callsIn_wide.2 (HQH.out _)).mono ?_⟩
                  rintro e wq ⟨rfl, hbq⟩
                  have HQ := Lib.hid (CSt.below HC2.out.drew hbq)
                  have tc := HQ.out.1.cell1
                  have tf := HQ.out.1.free 0
                  clear hbq
                  dsimp only
                  refine hK _ _ ?_
                  clear hK K
                  try simp only [Act.put, List.getElem_toArray, List.getElem_cons_succ, List.getElem_cons_zero, List.setIfInBounds_toArray, List.set_cons_zero, List.set_cons_succ]
                  refine wpAnyIn_ready (rs := [4]) (by kernel_rfl) (by simp) ?_
                  refine (AllReadyIn.cons rfl (fun K hK => ?_) AllReadyIn.nil)
                  go_simp
                  refine hK _ _ ?_
                  clear hK K
                  try simp only [Act.put, List.getElem_toArray, List.getElem_cons_succ, List.getElem_cons_zero, List.setIfInBounds_toArray, List.set_cons_zero, List.set_cons_succ]
                  refine wpAnyIn_ready (rs := [5]) (by kernel_rfl) (by simp) ?_
                  refine (AllReadyIn.cons rfl (fun K hK => ?_) AllReadyIn.nil)
                  go_simp
                  refine hK _ _ ?_
                  clear hK K
                  try simp only [Act.put, List.getElem_toArray, List.getElem_cons_succ, List.getElem_cons_zero, List.setIfInBounds_toArray, List.set_cons_zero, List.set_cons_succ]
                  refine wpAnyIn_done (by kernel_rfl) ?_ _
                  exact ⟨rfl, rfl, HQ.out.set (T2 ++ QH) hNB.1 hNB.2⟩
                · go_simp
                  refine ⟨(fun h => by cases h), (callsIn_wide.2 (HQH.out _)).mono ?_⟩
                  rintro e wq ⟨rfl, hbq⟩
                  have HQ := Lib.hid (CSt.below HC2.out.drew hbq)
                  have tc := HQ.out.1.cell1
                  have tf := HQ.out.1.free 0
                  clear hbq
                  dsimp only
                  refine hK _ _ ?_
                  clear hK K
                  try simp only [Act.put, List.getElem_toArray, List.getElem_cons_succ, List.getElem_cons_zero, List.setIfInBounds_toArray, List.set_cons_zero, List.set_cons_succ]
                  refine wpAnyIn_ready (rs := [0]) (by kernel_rfl) (by simp) ?_
                  refine (AllReadyIn.cons rfl (fun K hK => ?_) AllReadyIn.nil)
                  go_simp
                  refine hK _ _ ?_
                  clear hK K
                  try simp only [Act.put, List.getElem_toArray, List.getElem_cons_succ, List.getElem_cons_zero, List.setIfInBounds_toArray, List.set_cons_zero, List.set_cons_succ]
                  refine wpAnyIn_ready (rs := [4]) (by kernel_rfl) (by simp) ?_
                  refine (AllReadyIn.cons rfl (fun K hK => ?_) AllReadyIn.nil)
                  go_simp
                  refine hK _ _ ?_
                  clear hK K
                  try simp only [Act.put, List.getElem_toArray, List.getElem_cons_succ, List.getElem_cons_zero, List.setIfInBounds_toArray, List.set_cons_zero, List.set_cons_succ]
                  refine wpAnyIn_ready (rs := [5]) (by kernel_rfl) (by simp) ?_
                  refine (AllReadyIn.cons rfl (fun K hK => ?_) AllReadyIn.nil)
                  go_simp
                  refine hK _ _ ?_
                  clear hK K
                  try simp only [Act.put, List.getElem_toArray, List.getElem_cons_succ, List.getElem_cons_zero, List.setIfInBounds_toArray, List.set_cons_zero, List.set_cons_succ]
                  refine wpAnyIn_done (by kernel_rfl) ?_ _
                  exact ⟨rfl, rfl, HQ.out.set (T2 ++ QH) hNB.1 hNB.2⟩
          case k =>
            clear tc rc k4
            intro Z3 hF
            gi_wp2_with fail
            exact ⟨⟨hF.2.2.2.1 _ (by have := hF.2.2.2.2; omega), hF.2.2.2.1 _ (by have := hF.2.2.2.2; omega)⟩, hF.2.2.2.1.mono' (fun i hi => by rcases hi with h | h; exact h.elim; omega), hF.2.2.2.2, by rw [HTJ.out]; exact hF.1, hF.2.2.1, by have := hF.2.2.2.2; omega⟩
end Go.Proofs.YtdnbnigebejgjaaGreatDoor
