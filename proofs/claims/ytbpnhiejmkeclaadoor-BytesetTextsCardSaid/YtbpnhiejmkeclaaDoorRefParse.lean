/-
  The reference's Parse for every text: it returns what the program's Parse returns.
-/
import Derived.Test.YtbpnhiejmkeclaaDoorHeld
import Derived.Test.YtbpnhiejmkeclaaDoorRefRead
namespace Go.Proofs.YtbpnhiejmkeclaaDoor
open Go.RowKit
attribute [local go_sem] ba_get w_0 w_1 w_2 w_3
theorem ba_drop (l : List UInt8) (a : Nat) : (ByteArray.mk l.toArray).extract a l.length = ⟨(l.drop a).toArray⟩ := by
  rw [ba_extract, List.take_length]
attribute [local go_sem] ba_drop
theorem readB_drop {l : List UInt8} {b : Nat} {r : List UInt8} (h : readB l = some (b, r)) : ∃ n, 0 < n ∧ n ≤ l.length ∧ r = l.drop n ∧ readN l = (b, n) := by
  have key : ∃ n, 0 < n ∧ n ≤ l.length ∧ r = l.drop n := by
    cases l with
    | nil => simp [readB] at h
    | cons c t =>
      simp only [readB] at h
      by_cases hp : plainB c.toNat = true
      · rw [if_pos hp] at h
        injection h with h
        injection h with h1 h2
        subst h2
        exact ⟨1, by omega, by simp, rfl⟩
      · rw [if_neg hp] at h
        split at h
        · split at h
          · injection h with h
            injection h with h1 h2
            subst h2
            exact ⟨4, by omega, by simp, rfl⟩
          · cases h
        · cases h
  obtain ⟨n, h1, h2, h3⟩ := key
  refine ⟨n, h1, h2, h3, ?_⟩
  rw [readN_some h, h3, List.length_drop]
  congr 1
  omega
theorem cutDash_at {l : List UInt8} {a : Nat} (h : a < l.length) (e : (l[a]).toNat = 45) : cutDash (l.drop a) = some (l.drop (a + 1)) := by
  have e2 : l[a] = 45 := UInt8.toNat_inj.1 (by rw [e]; rfl)
  rw [List.drop_eq_getElem_cons h, e2]
  rfl
theorem cutDash_no {l : List UInt8} {a : Nat} (h : a < l.length) (e : (l[a]).toNat ≠ 45) : cutDash (l.drop a) = none := by
  rw [List.drop_eq_getElem_cons h]
  exact cutDash_ne _ _ (fun e2 => e (by rw [e2]; rfl))
theorem cutDash_end {l : List UInt8} {a : Nat} (h : l.length ≤ a) : cutDash (l.drop a) = none := by
  rw [List.drop_eq_nil_of_le h]
  rfl
theorem readR_none {l : List UInt8} (h : readB l = none) : readR l = .error 3 := by unfold readR; rw [h]
theorem readR_alone {l r : List UInt8} {lo : Nat} (h : readB l = some (lo, r)) (h2 : cutDash r = none) : readR l = .ok (lo, lo, r) := by unfold readR; rw [h]; simp only [h2]
theorem readR_dash {l r r' : List UInt8} {lo : Nat} (h : readB l = some (lo, r)) (h2 : cutDash r = some r') : readR l = match readB r' with
      | none => .error 3
      | some (hi, r'') => if hi ≤ lo then .error 8 else .ok (lo, hi, r'') := by unfold readR; rw [h]; simp only [h2]; rfl
theorem rangesR_one {lo hi : Nat} (h : lo ≤ hi) : rangesR (fun _ => lo) (fun _ => hi) 1 = .tuple #[(spanTo lo (hi + 1 - lo)).v, .int .i64 0] := by
  have hb : badR (fun _ => lo) (fun _ => hi) 1 = false := by simp [badR]; omega
  rw [rangesR_good hb]
  have : rangesTo (fun _ => lo) (fun _ => hi) 1 = spanTo lo (hi + 1 - lo) := by
    refine ext_has fun b hb => ?_
    show (WSet.or .empty _).has b = _
    rw [has_or, has_empty, Bool.false_or]
  rw [this]
theorem range_one (lo hi : Nat) (h1 : lo < 256) (h2 : hi < 256) (W : World) : RangesIn (W.alloc (.cells #[.int .u8 (lo : Int), .int .u8 (hi : Int)] 42)) (some ⟨W.heap.size, 0, none⟩) 1 (fun _ => lo) (fun _ => hi) := by
  intro j hj
  obtain rfl : j = 0 := by omega
  have hk : (W.alloc (.cells #[.int .u8 (lo : Int), .int .u8 (hi : Int)] 42)).heap[W.heap.size]? = _ := heap_alloc_new W _
  refine ⟨h1, h2, W.heap.size, 0, rfl, by simp, ?_, ?_⟩
  · rw [cell_of_row _ _ _ _ _ _ hk]; rfl
  · rw [cell_of_row _ _ _ _ _ _ hk]; rfl
theorem refUnion2_at (x0 x1 x2 x3 y0 y1 y2 y3 : BitVec 64) (W : World) (B : Nat) (fr : Nat × Nat) (hk : W.heap[B]? = some (.cells #[.int .u64 x0.toNat, .int .u64 x1.toNat, .int .u64 x2.toNat, .int .u64 x3.toNat, .int .u64 y0.toNat, .int .u64 y1.toNat, .int .u64 y2.toNat, .int .u64 y3.toNat] 24 fr)) :
    Calls Tryd.prog 28 #[.slice (some ⟨B, 0, none⟩) 2 2] W fun e w' => e = .returned ((WSet.mk x0 x1 x2 x3).or (WSet.mk y0 y1 y2 y3)).v ∧ Below W.heap.size W w' := by
  refine (refUnion_any (some ⟨B, 0, none⟩) 2 2 (pairF (WSet.mk x0 x1 x2 x3) (WSet.mk y0 y1 y2 y3)) (by unfold maxLen; omega) _ ?_).mono ?_
  · intro j hj
    exact ⟨B, 0, rfl, lt_of_block hk, fun i hi => sets2 _ _ _ _ _ _ _ _ hk j hj i hi⟩
  · rintro e w' ⟨rfl, hb⟩
    exact ⟨by rw [orTo_pair], hb⟩
set_option maxHeartbeats 2000000 in
theorem refParse_any (l : List UInt8) (hl : l.length < 9223372036854775807) (w : World) :
    Calls Tryd.prog 32 #[.string ⟨l.toArray⟩] w fun e w' => e = .returned (parseV (parseOf l)) ∧ Below w.heap.size w w' := by
  by_cases hlong : 1024 < l.length
  · have HP : Hid (parseOf l = .error 4) := if_pos hlong
    have hd : decide (1024 < (l.length : Int)) = true := decide_eq_true (by omega)
    have h1 := Blk.new0 w
    go_enter Tryd.func32, Tryd.ntmps32
    go_wp2_with fail
    refine bodyPost_ret (v := parseV (parseOf l)) (by rw [HP.out]; simp [results, Tryd.results32, go_sem, parseV, WSet.empty]) rfl ⟨rfl, ?_⟩
    go_grown
  · have hnl : ¬ ((l.length : Int) > 1024) := by omega
    have hlen : l.length ≤ 1024 := by omega
    have hd : decide (1024 < (l.length : Int)) = false := decide_eq_false (by omega)
    have HR : Hid (parseOf l = parseL l.length l .empty) := if_neg hlong
    obtain ⟨R, hR⟩ : ∃ R, parseL l.length l .empty = R := ⟨_, rfl⟩
    have HP : Hid (parseOf l = R) := Lib.hid (HR.out.trans hR)
    go_enter Tryd.func32, Tryd.ntmps32
    go_wp2_with fail
    go_loopw [5] (fun i wr => ∃ (k : Nat) (s : WSet), k ≤ l.length ∧ i = .int .i64 k ∧ Hid (parseL (l.drop k).length (l.drop k) s = R) ∧ Blk wr w.heap.size .empty ∧ Blk wr (w.heap.size + 1) s ∧ Below w.heap.size w wr)
      (fun i _ => l.length - (intOf i).toNat)
    case atStart =>
      refine ⟨0, .empty, Nat.zero_le _, rfl, Lib.hid hR, (Blk.new0 w).alloc _, ?_, by go_grown⟩
      have := Blk.new0 (w.alloc (.cells #[.int .u64 0, .int .u64 0, .int .u64 0, .int .u64 0] 24))
      rw [World.size_alloc] at this
      exact this
    case round =>
      obtain ⟨k, s, hk, rfl, hp, h1, h2, hB⟩ := hrel
      by_cases hlt : k < l.length
      · have hkb : (k : Int) ≤ (l.length : Int) := by omega
        have hne : l.drop k ≠ [] := by
          intro e
          have := congrArg List.length e
          rw [List.length_drop] at this
          simp at this
          omega
        have hdl : (l.drop k).length < 1000000 := by rw [List.length_drop]; omega
        cases hr : readB (l.drop k) with
        | none =>
          have hv : Hid (readN (l.drop k) = (0, 0)) := Lib.hid (readN_none hr)
          have hres : Hid (R = .error 3) := Lib.hid (hp.out.symm.trans (parseL_err _ hne _ _ (readR_none hr)))
          clear hr hne
          go_wp2_with fail
          refine (refRead_any (l.drop k) hdl _).mono ?_
          rintro e w3 ⟨rfl, hb⟩
          rw [readV, hv.out]
          have h1 := h1.below hb h1.lt
          have h2 := h2.below hb h2.lt
          have hB := hB.trans (hb.mono hB.size)
          clear hb
          obtain ⟨f0, f1, f2, f3⟩ := h1.frees
          obtain ⟨d0, d1, d2, d3⟩ := h1.cells
          have l1 := h1.lt
          go_wp2_with fail
          exact bodyPost_ret (h1.store0.results2 rfl _ rfl _ rfl) rfl ⟨by rw [HP.out, hres.out]; rfl, Blk.belowStore0 hB (Nat.le_refl _)⟩
        | some q =>
          obtain ⟨lo, r⟩ := q
          obtain ⟨n, n1, n2, rfl, hv⟩ := readB_drop hr
          have hlo := (readB_lt hr).1
          have hr := Lib.hid hr
          have hv := Lib.hid hv
          rw [List.drop_drop] at hr
          rw [List.length_drop] at n2
          obtain ⟨k2, hk2⟩ : ∃ k2, k + n = k2 := ⟨_, rfl⟩
          rw [hk2] at hr
          have hk2l : k2 ≤ l.length := by omega
          have hkk : k < k2 := by omega
          have hn0 : ((n : Int) == 0) = false := by rw [beq_eq_false_iff_ne]; omega
          have hsum : IntKind.i64.wrap ((k : Int) + (n : Int)) = (k2 : Int) := (IntWalk.i64_in _ (by omega)).trans (by omega)
          go_wp2_with fail
          refine (refRead_any (l.drop k) hdl _).mono ?_
          rintro e w3 ⟨rfl, hb⟩
          rw [readV, hv.out]
          have h1 := h1.below hb h1.lt
          have h2 := h2.below hb h2.lt
          have hB := hB.trans (hb.mono hB.size)
          clear hb
          clear n1 n2 hk2 hkb
          go_upto_region 11 with fail
          clear hn0 hsum hv
          go_cut [44] (fun p wx => ∃ bb : Bool, p = .bool bb ∧ Hid (bb = true → k2 < l.length ∧ cutDash (l.drop k2) = some (l.drop (k2 + 1))) ∧ Hid (bb = false → cutDash (l.drop k2) = none) ∧ wx = w3)
          case first =>
            by_cases hend : k2 < l.length
            · have hk2b : (k2 : Int) < (l.length : Int) := by omega
              have hk2c : decide ((k2 : Int) < (l.length : Int)) = true := decide_eq_true hk2b
              by_cases hdash : (l[k2]).toNat = 45
              · have hcd := Lib.hid (cutDash_at hend hdash)
                have hdash := Lib.hid hdash
                go_wp2_with fail
                go_meet
                refine ⟨true, ?_, Lib.hid (fun _ => ⟨hend, hcd.out⟩), Lib.hid (fun e => by cases e), rfl⟩
                first | rfl | (rw [hdash.out]; rfl)
              · have hcd := Lib.hid (cutDash_no hend hdash)
                have hx45 : ((l[k2]).toNat == 45) = false := by rw [beq_eq_false_iff_ne]; exact hdash
                have hx45 := Lib.hid hx45
                clear hdash
                go_wp2_with fail
                go_meet
                refine ⟨false, ?_, Lib.hid (fun e => by cases e), Lib.hid (fun _ => hcd.out), rfl⟩
                rw [← hx45.out]
                first | rfl | (congr 1; rw [Bool.eq_iff_iff]; simp; omega)
            · have hcd := Lib.hid (cutDash_end (l := l) (a := k2) (by omega))
              have hk2c : decide ((k2 : Int) < (l.length : Int)) = false := decide_eq_false (by omega)
              go_wp2_with fail
              go_meet
              exact ⟨false, rfl, Lib.hid (fun e => by cases e), Lib.hid (fun _ => hcd.out), rfl⟩
          case rest =>
          obtain ⟨bb, rfl, hyes, hno, rfl⟩ := hcut
          go_upto_if 44 with fail
          go_cut [5, 8] (fun p q wx => ∃ e hi : Nat, p = .int .i64 e ∧ q = .int .u8 hi ∧ e ≤ l.length ∧ k < e ∧ lo ≤ hi ∧ hi < 256 ∧ Hid (readR (l.drop k) = .ok (lo, hi, l.drop e)) ∧ Blk wx w.heap.size .empty ∧ Blk wx (w.heap.size + 1) s ∧ Below w.heap.size w wx)
          case first =>
            cases bb
            · have hra := Lib.hid (readR_alone hr.out (hno.out rfl))
              go_wp2_with fail
              go_meet
              exact ⟨k2, lo, rfl, rfl, hk2l, hkk, Nat.le_refl _, hlo, hra, h1, h2, hB⟩
            · obtain ⟨hend, hcd⟩ := hyes.out rfl
              have hdl2 : (l.drop (k2 + 1)).length < 1000000 := by rw [List.length_drop]; omega
              have hrd := readR_dash hr.out hcd
              have hk1 : IntKind.i64.wrap ((k2 : Int) + 1) = ((k2 + 1 : Nat) : Int) := (IntWalk.i64_in _ (by omega)).trans (by omega)
              obtain ⟨k3, hk3⟩ : ∃ k3, k2 + 1 = k3 := ⟨_, rfl⟩
              rw [hk3] at hdl2 hrd hk1
              have hk1b : (k3 : Int) ≤ (l.length : Int) := by omega
              have hk3l : k3 ≤ l.length := by omega
              have hk23 : k2 < k3 := by omega
              clear hcd hk3 hend
              cases hr2 : readB (l.drop k3) with
              | none =>
                rw [hr2] at hrd
                have hv : Hid (readN (l.drop k3) = (0, 0)) := Lib.hid (readN_none hr2)
                have hres : Hid (R = .error 3) := Lib.hid (hp.out.symm.trans (parseL_err _ hne _ _ hrd))
                clear hrd hr2 hne
                go_wp2_with fail
                refine (refRead_any (l.drop k3) hdl2 _).mono ?_
                rintro e w4 ⟨rfl, hb⟩
                rw [readV, hv.out]
                have h1 := h1.below hb h1.lt
                have h2 := h2.below hb h2.lt
                have hB := hB.trans (hb.mono hB.size)
                clear hb
                obtain ⟨f0, f1, f2, f3⟩ := h1.frees
                obtain ⟨d0, d1, d2, d3⟩ := h1.cells
                have l1 := h1.lt
                go_wp2_with fail
                exact bodyPost_ret (h1.store0.results2 rfl _ rfl _ rfl) rfl ⟨by rw [HP.out, hres.out]; rfl, Blk.belowStore0 hB (Nat.le_refl _)⟩
              | some q2 =>
                obtain ⟨hi, r2⟩ := q2
                obtain ⟨m, m1, m2, rfl, hv2⟩ := readB_drop hr2
                have hhi := (readB_lt hr2).1
                rw [hr2] at hrd
                rw [List.drop_drop] at hrd
                rw [List.length_drop] at m2
                have hv2 := Lib.hid hv2
                have hm0 : ((m : Int) == 0) = false := by rw [beq_eq_false_iff_ne]; omega
                clear hr2
                by_cases hord : hi ≤ lo
                · have hres : Hid (R = .error 8) := Lib.hid (hp.out.symm.trans (parseL_err _ hne _ _ (hrd.trans (if_pos hord))))
                  have hle : decide ((hi : Int) ≤ (lo : Int)) = true := decide_eq_true (by omega)
                  clear hrd hne
                  go_wp2_with fail
                  refine (refRead_any (l.drop k3) hdl2 _).mono ?_
                  rintro e w4 ⟨rfl, hb⟩
                  rw [readV, hv2.out]
                  have h1 := h1.below hb h1.lt
                  have h2 := h2.below hb h2.lt
                  have hB := hB.trans (hb.mono hB.size)
                  clear hb
                  obtain ⟨f0, f1, f2, f3⟩ := h1.frees
                  obtain ⟨d0, d1, d2, d3⟩ := h1.cells
                  have l1 := h1.lt
                  go_wp2_with fail
                  exact bodyPost_ret (h1.store0.results2 rfl _ rfl _ rfl) rfl ⟨by rw [HP.out, hres.out]; rfl, Blk.belowStore0 hB (Nat.le_refl _)⟩
                · have hrd := Lib.hid (hrd.trans (if_neg hord))
                  have hle : decide ((hi : Int) ≤ (lo : Int)) = false := decide_eq_false (by omega)
                  obtain ⟨k4, hk4⟩ : ∃ k4, k3 + m = k4 := ⟨_, rfl⟩
                  rw [hk4] at hrd
                  have hsum : IntKind.i64.wrap ((k3 : Int) + (m : Int)) = (k4 : Int) := (IntWalk.i64_in _ (by omega)).trans (by omega)
                  have hk4l : k4 ≤ l.length := by omega
                  have hk34 : k < k4 := by omega
                  have hlh : lo ≤ hi := by omega
                  clear hk4
                  go_wp2_with fail
                  refine (refRead_any (l.drop k3) hdl2 _).mono ?_
                  rintro e w4 ⟨rfl, hb⟩
                  rw [readV, hv2.out]
                  have h1 := h1.below hb h1.lt
                  have h2 := h2.below hb h2.lt
                  have hB := hB.trans (hb.mono hB.size)
                  clear hb
                  go_wp2_with fail
                  go_meet
                  exact ⟨k4, hi, rfl, rfl, hk4l, hk34, hlh, hhi, hrd, h1, h2, hB⟩
          case rest =>
          clear h1 h2 hB
          obtain ⟨e, hi, rfl, rfl, hel, hke, hlh, hhi, hrr, h1, h2, hB⟩ := hcut
          have hstep := Lib.hid ((parseL_step _ s _ _ _ hrr.out).symm.trans hp.out)
          clear hr hv hyes hno hne
          obtain ⟨x0, x1, x2, x3, hs⟩ : ∃ x0 x1 x2 x3, Hid (s = ⟨x0, x1, x2, x3⟩) := ⟨_, _, _, _, Lib.hid rfl⟩
          rw [hs.out] at h2
          obtain ⟨t0, t1, t2, t3, ht⟩ : ∃ x0 x1 x2 x3, Hid (spanTo lo (hi + 1 - lo) = ⟨x0, x1, x2, x3⟩) := ⟨_, _, _, _, Lib.hid rfl⟩
          obtain ⟨s0, s1, s2, s3, hu⟩ : ∃ x0' x1' x2' x3', Hid ((WSet.mk x0 x1 x2 x3).or (WSet.mk t0 t1 t2 t3) = ⟨x0', x1', x2', x3'⟩) := ⟨_, _, _, _, Lib.hid rfl⟩
          have hone := Lib.hid (rangesR_one hlh)
          have l2 := h2.lt
          go_wp2_with fail
          refine (refRanges_any (some ⟨wc.heap.size, 0, none⟩) 1 1 (fun _ => lo) (fun _ => hi) (by unfold maxLen; omega) _ (range_one lo hi hlo hhi wc)).mono ?_
          rintro y w5 ⟨rfl, hb⟩
          rw [hone.out, ht.out]
          have h1 := (h1.alloc (.cells #[.int .u8 (lo : Int), .int .u8 (hi : Int)] 42)).below hb (by simp; omega)
          have h2 := (h2.alloc (.cells #[.int .u8 (lo : Int), .int .u8 (hi : Int)] 42)).below hb (by simp; omega)
          have hB := (hB.alloc hB.size (.cells #[.int .u8 (lo : Int), .int .u8 (hi : Int)] 42)).trans (hb.mono (by simp; have := hB.size; omega))
          clear hb hone
          have l2 := h2.lt
          obtain ⟨c0, c1, c2, c3⟩ := h2.cells
          go_wp2_with fail
          refine (refUnion2_at x0 x1 x2 x3 t0 t1 t2 t3 _ _ (0, 0) (heap_at (by go_size))).mono ?_
          rintro y w6 ⟨rfl, hb⟩
          rw [hu.out]
          have h1 := ((h1.alloc (.cells #[.int .u64 t0.toNat, .int .u64 t1.toNat, .int .u64 t2.toNat, .int .u64 t3.toNat] 24)).alloc (.cells #[.int .u64 x0.toNat, .int .u64 x1.toNat, .int .u64 x2.toNat, .int .u64 x3.toNat, .int .u64 t0.toNat, .int .u64 t1.toNat, .int .u64 t2.toNat, .int .u64 t3.toNat] 24)).below hb (by simp; omega)
          have h2 := ((h2.alloc (.cells #[.int .u64 t0.toNat, .int .u64 t1.toNat, .int .u64 t2.toNat, .int .u64 t3.toNat] 24)).alloc (.cells #[.int .u64 x0.toNat, .int .u64 x1.toNat, .int .u64 x2.toNat, .int .u64 x3.toNat, .int .u64 t0.toNat, .int .u64 t1.toNat, .int .u64 t2.toNat, .int .u64 t3.toNat] 24)).below hb (by simp; omega)
          have hB := ((hB.alloc hB.size (.cells #[.int .u64 t0.toNat, .int .u64 t1.toNat, .int .u64 t2.toNat, .int .u64 t3.toNat] 24)).alloc (by simp; have := hB.size; omega) (.cells #[.int .u64 x0.toNat, .int .u64 x1.toNat, .int .u64 x2.toNat, .int .u64 x3.toNat, .int .u64 t0.toNat, .int .u64 t1.toNat, .int .u64 t2.toNat, .int .u64 t3.toNat] 24)).trans (hb.mono (by simp; have := hB.size; omega))
          clear hb c0 c1 c2 c3
          obtain ⟨c0, c1, c2, c3⟩ := h2.cells
          obtain ⟨f0, f1, f2, f3⟩ := h2.frees
          go_wp2_with fail
          go_roundw
          case rel =>
            refine ⟨e, ⟨s0, s1, s2, s3⟩, hel, rfl, ?_, ((((h1.other _ (by (try dsimp only); omega) _).other _ (by (try dsimp only); omega) _).other _ (by (try dsimp only); omega) _).other _ (by (try dsimp only); omega) _), h2.store ⟨s0, s1, s2, s3⟩, Blk.belowStore ⟨s0, s1, s2, s3⟩ hB (by omega)⟩
            refine Lib.hid ?_
            rw [← hstep.out, ht.out, hs.out, hu.out]
          case measure => simp [intOf]; omega
      · obtain rfl : k = l.length := by omega
        have hres : Hid (R = .ok s) := Lib.hid (hp.out.symm.trans (by rw [List.drop_length]; rfl))
        obtain ⟨c0, c1, c2, c3⟩ := h2.cells
        obtain ⟨d0, d1, d2, d3⟩ := h1.cells
        obtain ⟨f0, f1, f2, f3⟩ := h1.frees
        go_wp2_with fail
        exact bodyPost_ret ((h1.store s).results2 rfl _ rfl _ rfl) rfl ⟨by rw [HP.out, hres.out]; rfl, Blk.belowStore _ hB (Nat.le_refl _)⟩
end Go.Proofs.YtbpnhiejmkeclaaDoor
