/-
  The reference's reader of patterns: an element of a class.
-/
import Derived.Test.YtdnbnigebejgjaaGreatDoorHJV7
namespace Go.Proofs.YtdnbnigebejgjaaGreatDoor
open Go.RowKit
attribute [local go_sem] w_0 w_1 w_2 w_3
theorem take2_is {t : List UInt8} {s : RS} (h : s.e = 0) (b c : UInt8) : takeB t s [b, c] = (isB t s.k b && isB t (s.k + 1) c) := by
  have hr : restR t s = t.drop s.k := if_pos h
  have e1 : t.drop (s.k + 1) = (t.drop s.k).drop 1 := by rw [List.drop_drop]
  unfold takeB Lib.hasPrefix isB
  rw [hr, e1]
  cases t.drop s.k with
  | nil => rfl
  | cons x z =>
    cases z with
    | nil => simp [List.isPrefixOf]
    | cons y z =>
      have h1 : (b == x) = (x == b) := Bool.beq_comm ..
      have h2 : (c == y) = (y == c) := Bool.beq_comm ..
      simp [List.isPrefixOf, h1, h2]
theorem named_is {t : List UInt8} {s : RS} (h : s.e = 0) : (namedV t s).2 = (isB t s.k 92 && (isB t (s.k + 1) 100 || isB t (s.k + 1) 119)) := by
  unfold namedV
  rw [take2_is h, take2_is h]
  cases isB t s.k 92 <;> cases isB t (s.k + 1) 100 <;> cases isB t (s.k + 1) 119 <;> rfl
/-- The two abbreviations, read as escapes. -/
theorem named_esc {t : List UInt8} {k a : Nat} (h : (namedV t ⟨k, 0, a⟩).2 = true) : k + 1 < t.length ∧ elV t ⟨k, 0, a⟩ = escV t ⟨k + 1, 0, a⟩ ∧ elR t ⟨k, 0, a⟩ = escR t ⟨k + 1, 0, a⟩ := by
  have hn := named_is (t := t) (s := ⟨k, 0, a⟩) rfl
  rw [h] at hn
  dsimp only at hn
  have h2 := hn.symm
  rw [Bool.and_eq_true, Bool.or_eq_true] at h2
  obtain ⟨h92, h3⟩ := h2
  have hlt : k + 1 < t.length := by
    by_cases hlt : k + 1 < t.length
    · exact hlt
    · rw [isB_out _ (by omega), isB_out _ (by omega)] at h3
      rcases h3 with h3 | h3 <;> cases h3
  refine ⟨hlt, ?_, ?_⟩
  · unfold elV
    rw [if_pos h]
    unfold escV namedV
    rw [take2_is rfl, take2_is rfl, h92, List.getElem?_eq_getElem hlt]
    dsimp only
    rw [isB_in _ hlt, isB_in _ hlt, Bool.true_and, Bool.true_and] at *
    unfold escB
    by_cases h100 : t[k + 1] = 100
    · rw [if_pos (by simpa using h100), if_pos h100]
    · rw [if_neg (by simpa using h100), if_neg h100]
      have h119 : t[k + 1] = 119 := by
        rcases h3 with h3 | h3
        · exact absurd (by simpa using h3) h100
        · simpa using h3
      rw [if_pos (by simpa using h119), if_pos h119]
  · unfold elR
    rw [if_pos h]
    unfold escR
    rw [if_pos hlt]
    unfold namedR
    rw [take2_is rfl, h92]
    dsimp only
    cases h100 : isB t (k + 1) 100 with
    | true =>
      rw [show (true && true) = true from rfl, if_pos rfl]
      unfold takeR
      rw [take2_is rfl, h92]
      dsimp only
      rw [h100]
      rfl
    | false =>
      rw [if_neg (by simp)]
      have h119 : isB t (k + 1) 119 = true := by
        rcases h3 with h3 | h3
        · rw [h100] at h3; cases h3
        · exact h3
      unfold takeR
      rw [take2_is rfl, h92]
      dsimp only
      rw [h119]
      rfl
theorem el_no {t : List UInt8} {s : RS} (h : (namedV t s).2 = false) (h1 : takeB t (cbR t s) [45] = false) : elV t s = ofW (cbV t s) ∧ elR t s = cbR t s := by
  unfold elV elR
  rw [if_neg (by rw [h]; simp), if_neg (by rw [h1]; simp), if_neg (by rw [h]; simp), if_neg (by rw [h1]; simp)]
  exact ⟨rfl, rfl⟩
theorem el_yes {t : List UInt8} {s s2 : RS} (h : (namedV t s).2 = false) (h1 : takeB t (cbR t s) [45] = true) (h2 : takeR t (cbR t s) [45] = s2) : elV t s = spanW (cbV t s) (cbV t s2) ∧ elR t s = (if (cbV t s).toNat ≤ (cbV t s2).toNat then cbR t s2 else failR (cbR t s2) 8 s2.k) := by
  unfold elV elR
  rw [if_neg (by rw [h]; simp), if_pos h1, if_neg (by rw [h]; simp), if_pos h1, h2]
  exact ⟨rfl, rfl⟩
set_option maxHeartbeats 16000000 in
set_option maxRecDepth 100000 in
theorem rElement_any (t : List UInt8) (s : RS) (x2 x3 x4 x5 : Value) (W : World) (B : Nat) (h : RF W B t s x2 x3 x4 x5) (h0 : s.e = 0) (hle : s.k ≤ t.length) :
    Calls Tryz.prog 123 #[.pointer (some ⟨B, 0, none⟩)] W fun e w' => e = .returned (elV t s).v ∧ RF w' B t (elR t s) x2 x3 x4 x5 ∧ W.grownBy w' (some B) := by
  obtain ⟨k, e0, a0⟩ := s
  dsimp only at h0 hle
  subst h0
  have hlen := h.len
  have hBW := h.lt
  obtain ⟨X, hX⟩ : ∃ X, W.alloc (.cells #[.int .u64 0, .int .u64 0, .int .u64 0, .int .u64 0] 41) = X := ⟨_, rfl⟩
  have r1 : Blk X W.heap.size .empty := by rw [← hX]; exact Blk.new0 W
  have h1 : RF X B t ⟨k, 0, a0⟩ x2 x3 x4 x5 := by rw [← hX]; exact h.alloc _
  have g1 : W.grownBy X (some B) := by rw [← hX]; exact jgal (jgrefl W _) _
  have HQ := Lib.hid fun m => h1.drewN m
  have HR1 := Lib.hid fun m => (show Blk (X.drewN m) W.heap.size .empty from r1)
  have HG := Lib.hid fun m => jgdrewN g1 m
  have HX := Lib.hid hX
  obtain ⟨c0, c1, c6, c7⟩ := h1.cells
  dsimp only at c1
  have hnm := named_is (t := t) (s := ⟨k, 0, a0⟩) rfl
  dsimp only at hnm
  obtain ⟨q, hq⟩ : ∃ q, isB t k 92 = q := ⟨_, rfl⟩
  have H92 := Lib.hid fun W h => rIs_at t k 92 92 rfl q hq W B 0 a0 x2 x3 x4 x5 h
  rw [hq] at hnm
  have wk : IntKind.i64.wrap ((k : Int) + 1) = (k : Int) + 1 := jwrap (by omega) (by omega)
  cases hn : (namedV t ⟨k, 0, a0⟩).2 with
  | true =>
    rw [hn] at hnm
    obtain ⟨hlt, hV, hR⟩ := named_esc hn
    have HV := Lib.hid (And.intro hV hR)
    have hq1 : q = true := by
      cases q with
      | true => rfl
      | false => rw [Bool.false_and] at hnm; cases hnm
    subst hq1
    have b1 : decide ((k : Int) + 1 < (t.length : Int)) = true := decide_eq_true (by omega)
    have hx : k + 1 < (ByteArray.mk t.toArray).size := hlt
    have gg := ba_get t (k + 1) hx
    have hgt : ((k : Int) + 1).toNat = k + 1 := by omega
    have hg0 : (0 : Int) ≤ (k : Int) + 1 := by omega
    have hgl : (k : Int) + 1 < (t.length : Int) := by omega
    rw [isB_in _ hlt, isB_in _ hlt, Bool.true_and] at hnm
    obtain ⟨c, hc⟩ : ∃ c, t[k + 1] = c := ⟨_, rfl⟩
    rw [hc] at gg hnm
    have HE := Lib.hid fun W h => rEscape_any t ⟨k + 1, 0, a0⟩ x2 x3 x4 x5 W B h rfl (by dsimp only; omega)
    obtain ⟨⟨s0, s1, s2, s3⟩, hS⟩ : ∃ S, escV t ⟨k + 1, 0, a0⟩ = S := ⟨_, rfl⟩
    rw [hS] at HV HE
    have HS := Lib.hid fun m => (h1.drewN m).step (by show k ≤ t.length; omega)
    dsimp only at HS
    have f1 := h1.free 1
    have hor : c = 100 ∨ c = 119 := by
      have := hnm.symm
      simpa using this
    clear hq hnm hn hV hR hc hS r1 h1 g1 h hlt
    rcases hor with rfl | rfl
    · have d1 : (((100 : UInt8).toNat : Int) == 100) = true := by decide
      have d2 : (((100 : UInt8).toNat : Int) == 119) = false := by decide
      go_enter Tryz.func123, Tryz.ntmps123
      go_wp2_with fail
      go_quiet ((go_at_call 33; with_reducible exact Calls.quiet_of (H92.out _ (HQ.out _))))
      go_upto_region 3 with fail
      generalize hY : World.setCell _ ⟨B, 1, none⟩ (.int .i64 ((k : Int) + 1)) = Y
      have h5 : RF Y B t ⟨k + 1, 0, a0⟩ x2 x3 x4 x5 := by rw [← hY]; exact HS.out _
      have r5 : Blk Y W.heap.size .empty := by rw [← hY]; exact (HR1.out _).other _ (by show B ≠ _; omega) _
      have g5 : W.grownBy Y (some B) := by rw [← hY]; exact jgtrans (HG.out _) (jgset _ B 1 _)
      clear hY c0 c1 c6 c7 f1 HQ HS HR1 HG HX hX wk gg b1 d1 d2
      go_wp2_with fail
      refine (HE.out _ h5).mono ?_
      rintro e w7 ⟨rfl, h7, gb⟩
      have r7 : Blk w7 W.heap.size .empty := (gb.block _ r5.lt (fun e => by injection e; omega)).trans r5
      have g7 := jgtrans g5 gb
      obtain ⟨f0, f1, f2, f3⟩ := r7.frees
      obtain ⟨d0, d1, d2, d3⟩ := r7.cells
      go_wp2_with fail
      exact bodyPost_ret ((r7.store4 s0 s1 s2 s3).results rfl _ rfl) rfl ⟨by rw [HV.out.1], by rw [HV.out.2]; exact h7.store (by omega) _ _ _ _, jgstore g7 (Nat.le_refl _) _ _ _ _⟩
    · have d1 : (((119 : UInt8).toNat : Int) == 100) = false := by decide
      have d2 : (((119 : UInt8).toNat : Int) == 119) = true := by decide
      go_enter Tryz.func123, Tryz.ntmps123
      go_wp2_with fail
      go_quiet ((go_at_call 33; with_reducible exact Calls.quiet_of (H92.out _ (HQ.out _))))
      go_upto_region 3 with fail
      generalize hY : World.setCell _ ⟨B, 1, none⟩ (.int .i64 ((k : Int) + 1)) = Y
      have h5 : RF Y B t ⟨k + 1, 0, a0⟩ x2 x3 x4 x5 := by rw [← hY]; exact HS.out _
      have r5 : Blk Y W.heap.size .empty := by rw [← hY]; exact (HR1.out _).other _ (by show B ≠ _; omega) _
      have g5 : W.grownBy Y (some B) := by rw [← hY]; exact jgtrans (HG.out _) (jgset _ B 1 _)
      clear hY c0 c1 c6 c7 f1 HQ HS HR1 HG HX hX wk gg b1 d1 d2
      go_wp2_with fail
      refine (HE.out _ h5).mono ?_
      rintro e w7 ⟨rfl, h7, gb⟩
      have r7 : Blk w7 W.heap.size .empty := (gb.block _ r5.lt (fun e => by injection e; omega)).trans r5
      have g7 := jgtrans g5 gb
      obtain ⟨f0, f1, f2, f3⟩ := r7.frees
      obtain ⟨d0, d1, d2, d3⟩ := r7.cells
      go_wp2_with fail
      exact bodyPost_ret ((r7.store4 s0 s1 s2 s3).results rfl _ rfl) rfl ⟨by rw [HV.out.1], by rw [HV.out.2]; exact h7.store (by omega) _ _ _ _, jgstore g7 (Nat.le_refl _) _ _ _ _⟩
  | false =>
    rw [hn] at hnm
    have HB1 := Lib.hid fun W h => rByte_any t ⟨k, 0, a0⟩ x2 x3 x4 x5 W B h rfl hle
    have hyes := fun s2 h1 h2 => el_yes (s2 := s2) hn h1 h2
    have hno := fun h1 => el_no hn h1
    obtain ⟨⟨k1, e1, a1⟩, hs1⟩ : ∃ s1, cbR t ⟨k, 0, a0⟩ = s1 := ⟨_, rfl⟩
    obtain ⟨lo, hlo⟩ : ∃ v, cbV t ⟨k, 0, a0⟩ = v := ⟨_, rfl⟩
    rw [hs1, hlo] at HB1 hyes hno
    have HYES := Lib.hid hyes
    have HNO := Lib.hid hno
    clear hyes hno hs1 hlo
    have HREST : Hid (∀ Y, RF Y B t ⟨k, 0, a0⟩ x2 x3 x4 x5 → Blk Y W.heap.size .empty → W.grownBy Y (some B) → True) := Lib.hid fun _ _ _ _ => trivial
    clear HREST
    have HWAY : Hid (q = false ∨ (q = true ∧ ((¬ k + 1 < t.length) ∨ ∃ h : k + 1 < t.length, ¬ t[k + 1] = 100 ∧ ¬ t[k + 1] = 119))) := Lib.hid (by
      cases q with
      | false => exact .inl rfl
      | true =>
        refine .inr ⟨rfl, ?_⟩
        by_cases hlt : k + 1 < t.length
        · rw [isB_in _ hlt, isB_in _ hlt, Bool.true_and] at hnm
          have := hnm.symm
          rw [Bool.or_eq_false_iff] at this
          exact .inr ⟨hlt, beq_eq_false_iff_ne.1 this.1, beq_eq_false_iff_ne.1 this.2⟩
        · exact .inl hlt)
    clear hnm hn hq r1 h1 g1 h
    go_enter Tryz.func123, Tryz.ntmps123
    go_wp2_with fail
    go_cut [48] (fun v wx => v = .bool false ∧ ∃ n, wx = X.drewN n)
    case first =>
      rcases HWAY.out with rfl | ⟨rfl, hlt | ⟨hlt, n100, n119⟩⟩
      · go_quiet ((go_at_call 33; with_reducible exact Calls.quiet_of (H92.out _ (HQ.out _))))
        go_wp2_with fail
        go_meet
        exact ⟨rfl, _, rfl⟩
      · have b1 : decide ((k : Int) + 1 < (t.length : Int)) = false := decide_eq_false (by omega)
        go_quiet ((go_at_call 33; with_reducible exact Calls.quiet_of (H92.out _ (HQ.out _))))
        go_wp2_with fail
        go_meet
        exact ⟨rfl, _, rfl⟩
      · have b1 : decide ((k : Int) + 1 < (t.length : Int)) = true := decide_eq_true (by omega)
        have hx : k + 1 < (ByteArray.mk t.toArray).size := hlt
        have gg := ba_get t (k + 1) hx
        have hgt : ((k : Int) + 1).toNat = k + 1 := by omega
        have hg0 : (0 : Int) ≤ (k : Int) + 1 := by omega
        have hgl : (k : Int) + 1 < (t.length : Int) := by omega
        obtain ⟨c, hc⟩ : ∃ c, t[k + 1] = c := ⟨_, rfl⟩
        rw [hc] at gg n100 n119
        have d1 : ((c.toNat : Int) == 100) = false := by
          have : ¬ c.toNat = 100 := fun e => n100 (UInt8.toNat_inj.1 e)
          simpa using (by omega : ¬ (c.toNat : Int) = 100)
        have d2 : ((c.toNat : Int) == 119) = false := by
          have : ¬ c.toNat = 119 := fun e => n119 (UInt8.toNat_inj.1 e)
          simpa using (by omega : ¬ (c.toNat : Int) = 119)
        clear hc n100 n119 hlt
        go_quiet ((go_at_call 33; with_reducible exact Calls.quiet_of (H92.out _ (HQ.out _))))
        go_wp2_with fail
        go_meet
        exact ⟨rfl, _, rfl⟩
    case rest =>
    obtain ⟨rfl, n, rfl⟩ := hcut
    have h4 := HQ.out n
    have r4 := HR1.out n
    have g4 := HG.out n
    have hz4 := r4.lt
    generalize X.drewN n = Y at h4 r4 g4 hz4 ⊢
    clear HQ HR1 HG HX hX c0 c1 c6 c7 HWAY H92 wk
    go_wp2_with fail
    refine (HB1.out _ h4).mono ?_
    rintro e w1 ⟨rfl, h5, gb⟩
    have r5 : Blk w1 W.heap.size .empty := (gb.block _ hz4 (fun e => by injection e; omega)).trans r4
    have g5 := jgtrans g4 gb
    have HOK := Lib.hid fun W h => rOk_any t ⟨k1, e1, a1⟩ x2 x3 x4 x5 W B h
    clear h4 r4 g4 gb hz4 HB1
    by_cases he1 : e1 = 0
    · subst he1
      have hi45 := isB_take (t := t) (s := ⟨k1, 0, a1⟩) rfl 45
      dsimp only at hi45
      have od : decide ((RS.mk k1 0 a1).e = 0) = true := decide_eq_true rfl
      rw [od] at HOK
      cases h45 : takeB t ⟨k1, 0, a1⟩ [45] with
      | false =>
        have HNO2 := Lib.hid (HNO.out h45)
        rw [h45] at hi45
        have H45 := Lib.hid fun W h => rIs_at t k1 45 45 rfl false hi45 W B 0 a1 x2 x3 x4 x5 h
        obtain ⟨⟨s0, s1, s2, s3⟩, hS⟩ : ∃ S, ofW lo = S := ⟨_, rfl⟩
        have HD := Lib.hid (refOf1_at lo)
        rw [hS] at HNO2 HD
        clear hS h45 hi45 HYES HNO od
        go_wp2_with fail
        refine (HOK.out _ h5).mono ?_
        rintro e w2 ⟨rfl, hw2⟩
        rw [hw2]
        clear hw2
        go_wp2_with fail
        refine (H45.out _ h5).mono ?_
        rintro e w3 ⟨rfl, m3, hw3⟩
        have h5 : RF w3 B t ⟨k1, 0, a1⟩ x2 x3 x4 x5 := by rw [hw3]; exact h5.drewN m3
        have r5 : Blk w3 W.heap.size .empty := by rw [hw3]; exact r5
        have g5 : W.grownBy w3 (some B) := by rw [hw3]; exact jgdrewN g5 m3
        clear hw3
        have h6 := h5.alloc (.cells #[.int .u8 (lo.toNat : Int)] 5)
        have r6 := r5.alloc (.cells #[.int .u8 (lo.toNat : Int)] 5)
        have g6 := jgal g5 (.cells #[.int .u8 (lo.toNat : Int)] 5)
        go_wp2_with fail
        refine (HD.out _ _ _ (heap_alloc_new w3 _)).mono ?_
        rintro e w7 ⟨rfl, hb7⟩
        have h7 := h6.below hb7 h6.lt
        have r7 := r6.below hb7 r6.lt
        have g7 := jgbe g6 hb7
        obtain ⟨f0, f1, f2, f3⟩ := r7.frees
        obtain ⟨d0, d1, d2, d3⟩ := r7.cells
        go_wp2_with fail
        exact bodyPost_ret ((r7.store4 s0 s1 s2 s3).results rfl _ rfl) rfl ⟨by rw [(HNO2.out).1], by rw [(HNO2.out).2]; exact h7.store (by omega) _ _ _ _, jgstore g7 (Nat.le_refl _) _ _ _ _⟩
      | true =>
        have hk1 : k1 < t.length := by
          have := (vl_take h45)
          simp only [List.length_singleton] at this
          have h2 := vl_at (t := t) (s := ⟨k1, 0, a1⟩) rfl
          dsimp only at h2
          omega
        have hs2 : takeR t ⟨k1, 0, a1⟩ [45] = ⟨k1 + 1, 0, a1⟩ := by unfold takeR; rw [if_pos h45]; rfl
        have hV := HYES.out _ h45 hs2
        rw [h45] at hi45
        have H45 := Lib.hid fun W h => rIs_at t k1 45 45 rfl true hi45 W B 0 a1 x2 x3 x4 x5 h
        have HB2 := Lib.hid fun W h => rByte_any t ⟨k1 + 1, 0, a1⟩ x2 x3 x4 x5 W B h rfl (by dsimp only; omega)
        obtain ⟨⟨k3, e3, a3⟩, hs3⟩ : ∃ s1, cbR t ⟨k1 + 1, 0, a1⟩ = s1 := ⟨_, rfl⟩
        obtain ⟨hi, hhi⟩ : ∃ v, cbV t ⟨k1 + 1, 0, a1⟩ = v := ⟨_, rfl⟩
        rw [hs3, hhi] at HB2 hV
        obtain ⟨⟨s0, s1, s2, s3⟩, hS⟩ : ∃ S, spanW lo hi = S := ⟨_, rfl⟩
        have HSP := Lib.hid (refSpan_at lo hi)
        rw [hS] at hV HSP
        have HV0 := Lib.hid hV
        have ww1 : IntKind.i64.wrap ((k1 : Int) + 1) = (k1 : Int) + 1 := jwrap (by omega) (by omega)
        clear hS hs3 hhi hV hs2 h45 hi45 HYES HNO od
        go_wp2_with fail
        refine (HOK.out _ h5).mono ?_
        rintro e w2 ⟨rfl, hw2⟩
        rw [hw2]
        clear hw2
        go_wp2_with fail
        refine (H45.out _ h5).mono ?_
        rintro e w3 ⟨rfl, m3, hw3⟩
        have h6 : RF w3 B t ⟨k1, 0, a1⟩ x2 x3 x4 x5 := by rw [hw3]; exact h5.drewN m3
        have r6 : Blk w3 W.heap.size .empty := by rw [hw3]; exact r5
        have g6 : W.grownBy w3 (some B) := by rw [hw3]; exact jgdrewN g5 m3
        clear hw3 h5 r5 g5
        obtain ⟨c0, c1, c6, c7⟩ := h6.cells
        dsimp only at c1
        have f1 := h6.free 1
        go_upto_region 8 with fail
        have h7 := h6.step (by dsimp only; omega)
        have r7 := r6.other ⟨B, 1, none⟩ (by show B ≠ _; omega) (.int .i64 ((k1 : Int) + 1))
        have g7 := jgtrans g6 (jgset w3 B 1 (.int .i64 ((k1 : Int) + 1)))
        dsimp only at h7
        generalize w3.setCell ⟨B, 1, none⟩ (.int .i64 ((k1 : Int) + 1)) = Z at h7 r7 g7 ⊢
        clear c0 c1 c6 c7 f1 h6 r6 g6 ww1
        obtain ⟨c0, c1, c6, c7⟩ := h7.cells
        dsimp only at c1
        go_wp2_with fail
        refine (HB2.out _ h7).mono ?_
        rintro e w4 ⟨rfl, h8, gb⟩
        have r8 : Blk w4 W.heap.size .empty := (gb.block _ r7.lt (fun e => by injection e; omega)).trans r7
        have g8 := jgtrans g7 gb
        have HOK3 := Lib.hid fun W h => rOk_any t ⟨k3, e3, a3⟩ x2 x3 x4 x5 W B h
        clear h7 r7 g7 gb c0 c1 c6 c7 HB2 HOK
        by_cases he3 : e3 = 0
        · subst he3
          have od : decide ((RS.mk k3 0 a3).e = 0) = true := decide_eq_true rfl
          rw [od] at HOK3
          by_cases hlh : lo.toNat ≤ hi.toNat
          · have b1 : decide ((hi.toNat : Int) < (lo.toNat : Int)) = false := decide_eq_false (by omega)
            have b2 : decide (hi.toNat < lo.toNat) = false := decide_eq_false (by omega)
            have HV := HV0
            rw [if_pos hlh] at HV
            clear hlh HV0
            go_wp2_with fail
            refine (HOK3.out _ h8).mono ?_
            rintro e w5 ⟨rfl, hw5⟩
            rw [hw5]
            clear hw5
            go_upto_region 12 with fail
            have h9 := h8.alloc (.cells #[.int .u8 (lo.toNat : Int), .int .u8 (hi.toNat : Int)] 129)
            have r9 := r8.alloc (.cells #[.int .u8 (lo.toNat : Int), .int .u8 (hi.toNat : Int)] 129)
            have g9 := jgal g8 (.cells #[.int .u8 (lo.toNat : Int), .int .u8 (hi.toNat : Int)] 129)
            clear h8 r8 g8
            go_wp2_with fail
            refine (HSP.out _ _ _ (heap_alloc_new w4 _)).mono ?_
            rintro e w10 ⟨⟨z, rfl⟩, hb10⟩
            have h10 := (h9.below hb10 h9.lt).alloc (.cells #[.int .u64 s0.toNat, .int .u64 s1.toNat, .int .u64 s2.toNat, .int .u64 s3.toNat] 41)
            have r10 := (r9.below hb10 r9.lt).alloc (.cells #[.int .u64 s0.toNat, .int .u64 s1.toNat, .int .u64 s2.toNat, .int .u64 s3.toNat] 41)
            have q10 := Blk.new w10 ⟨s0, s1, s2, s3⟩
            have g10 := jgal (jgbe g9 hb10) (.cells #[.int .u64 s0.toNat, .int .u64 s1.toNat, .int .u64 s2.toNat, .int .u64 s3.toNat] 41)
            dsimp only at q10
            clear h9 r9 g9 hb10
            go_upto_region 13 with fail
            generalize w10.alloc (.cells #[.int .u64 s0.toNat, .int .u64 s1.toNat, .int .u64 s2.toNat, .int .u64 s3.toNat] 41) = w11 at h10 r10 q10 g10 ⊢
            obtain ⟨c0, c1, c2, c3⟩ := q10.cells4
            obtain ⟨d0, d1, d2, d3⟩ := r10.cells
            obtain ⟨f0, f1, f2, f3⟩ := r10.frees
            go_wp2_with fail
            exact bodyPost_ret ((r10.store4 s0 s1 s2 s3).results rfl _ rfl) rfl ⟨by rw [HV.out.1], by rw [HV.out.2]; exact h10.store (by omega) _ _ _ _, jgstore g10 (Nat.le_refl _) _ _ _ _⟩
          · have b1 : decide ((hi.toNat : Int) < (lo.toNat : Int)) = true := decide_eq_true (by omega)
            have b2 : decide (hi.toNat < lo.toNat) = true := decide_eq_true (by omega)
            have HV := HV0
            rw [if_neg hlh] at HV
            have HW := Lib.hid fun W h => rWrong_any t ⟨k3, 0, a3⟩ x2 x3 x4 x5 8 (k1 + 1) W B h
            clear hlh HV0
            go_wp2_with fail
            refine (HOK3.out _ h8).mono ?_
            rintro e w5 ⟨rfl, hw5⟩
            rw [hw5]
            clear hw5
            go_wp2_with fail
            refine (HW.out _ h8).mono ?_
            rintro e w6 ⟨rfl, h11, gb⟩
            have r11 : Blk w6 W.heap.size .empty := (gb.block _ r8.lt (fun e => by injection e; omega)).trans r8
            have g11 := jgtrans g8 gb
            clear h8 r8 g8 gb
            go_upto_region 12 with fail
            have h9 := h11.alloc (.cells #[.int .u8 (lo.toNat : Int), .int .u8 (hi.toNat : Int)] 129)
            have r9 := r11.alloc (.cells #[.int .u8 (lo.toNat : Int), .int .u8 (hi.toNat : Int)] 129)
            have g9 := jgal g11 (.cells #[.int .u8 (lo.toNat : Int), .int .u8 (hi.toNat : Int)] 129)
            clear h11 r11 g11
            go_wp2_with fail
            refine (HSP.out _ _ _ (heap_alloc_new w6 _)).mono ?_
            rintro e w10 ⟨⟨z, rfl⟩, hb10⟩
            have h10 := (h9.below hb10 h9.lt).alloc (.cells #[.int .u64 s0.toNat, .int .u64 s1.toNat, .int .u64 s2.toNat, .int .u64 s3.toNat] 41)
            have r10 := (r9.below hb10 r9.lt).alloc (.cells #[.int .u64 s0.toNat, .int .u64 s1.toNat, .int .u64 s2.toNat, .int .u64 s3.toNat] 41)
            have q10 := Blk.new w10 ⟨s0, s1, s2, s3⟩
            have g10 := jgal (jgbe g9 hb10) (.cells #[.int .u64 s0.toNat, .int .u64 s1.toNat, .int .u64 s2.toNat, .int .u64 s3.toNat] 41)
            dsimp only at q10
            clear h9 r9 g9 hb10
            go_upto_region 13 with fail
            generalize w10.alloc (.cells #[.int .u64 s0.toNat, .int .u64 s1.toNat, .int .u64 s2.toNat, .int .u64 s3.toNat] 41) = w11 at h10 r10 q10 g10 ⊢
            obtain ⟨c0, c1, c2, c3⟩ := q10.cells4
            obtain ⟨d0, d1, d2, d3⟩ := r10.cells
            obtain ⟨f0, f1, f2, f3⟩ := r10.frees
            go_wp2_with fail
            exact bodyPost_ret ((r10.store4 s0 s1 s2 s3).results rfl _ rfl) rfl ⟨by rw [HV.out.1], by rw [HV.out.2]; exact h10.store (by omega) _ _ _ _, jgstore g10 (Nat.le_refl _) _ _ _ _⟩
        · have od : decide ((RS.mk k3 e3 a3).e = 0) = false := decide_eq_false he3
          rw [od] at HOK3
          have HV : Hid (elV t ⟨k, 0, a0⟩ = ⟨s0, s1, s2, s3⟩ ∧ elR t ⟨k, 0, a0⟩ = ⟨k3, e3, a3⟩) := Lib.hid ⟨HV0.out.1, by
            rw [HV0.out.2]
            split
            · rfl
            · exact fail_bad he3 _ _⟩
          clear he3 HV0
          go_wp2_with fail
          refine (HOK3.out _ h8).mono ?_
          rintro e w5 ⟨rfl, hw5⟩
          rw [hw5]
          clear hw5
          go_upto_region 12 with fail
          have h9 := h8.alloc (.cells #[.int .u8 (lo.toNat : Int), .int .u8 (hi.toNat : Int)] 129)
          have r9 := r8.alloc (.cells #[.int .u8 (lo.toNat : Int), .int .u8 (hi.toNat : Int)] 129)
          have g9 := jgal g8 (.cells #[.int .u8 (lo.toNat : Int), .int .u8 (hi.toNat : Int)] 129)
          clear h8 r8 g8
          go_wp2_with fail
          refine (HSP.out _ _ _ (heap_alloc_new w4 _)).mono ?_
          rintro e w10 ⟨⟨z, rfl⟩, hb10⟩
          have h10 := (h9.below hb10 h9.lt).alloc (.cells #[.int .u64 s0.toNat, .int .u64 s1.toNat, .int .u64 s2.toNat, .int .u64 s3.toNat] 41)
          have r10 := (r9.below hb10 r9.lt).alloc (.cells #[.int .u64 s0.toNat, .int .u64 s1.toNat, .int .u64 s2.toNat, .int .u64 s3.toNat] 41)
          have q10 := Blk.new w10 ⟨s0, s1, s2, s3⟩
          have g10 := jgal (jgbe g9 hb10) (.cells #[.int .u64 s0.toNat, .int .u64 s1.toNat, .int .u64 s2.toNat, .int .u64 s3.toNat] 41)
          dsimp only at q10
          clear h9 r9 g9 hb10
          go_upto_region 13 with fail
          generalize w10.alloc (.cells #[.int .u64 s0.toNat, .int .u64 s1.toNat, .int .u64 s2.toNat, .int .u64 s3.toNat] 41) = w11 at h10 r10 q10 g10 ⊢
          obtain ⟨c0, c1, c2, c3⟩ := q10.cells4
          obtain ⟨d0, d1, d2, d3⟩ := r10.cells
          obtain ⟨f0, f1, f2, f3⟩ := r10.frees
          go_wp2_with fail
          exact bodyPost_ret ((r10.store4 s0 s1 s2 s3).results rfl _ rfl) rfl ⟨by rw [HV.out.1], by rw [HV.out.2]; exact h10.store (by omega) _ _ _ _, jgstore g10 (Nat.le_refl _) _ _ _ _⟩
    · have hf : takeB t ⟨k1, e1, a1⟩ [45] = false := take_bad he1 _ _
      have od : decide ((RS.mk k1 e1 a1).e = 0) = false := decide_eq_false he1
      rw [od] at HOK
      have HNO2 := Lib.hid (HNO.out hf)
      obtain ⟨⟨s0, s1, s2, s3⟩, hS⟩ : ∃ S, ofW lo = S := ⟨_, rfl⟩
      have HD := Lib.hid (refOf1_at lo)
      rw [hS] at HNO2 HD
      clear hS hf HYES HNO od he1
      go_wp2_with fail
      refine (HOK.out _ h5).mono ?_
      rintro e w2 ⟨rfl, hw2⟩
      rw [hw2]
      clear hw2
      have h6 := h5.alloc (.cells #[.int .u8 (lo.toNat : Int)] 5)
      have r6 := r5.alloc (.cells #[.int .u8 (lo.toNat : Int)] 5)
      have g6 := jgal g5 (.cells #[.int .u8 (lo.toNat : Int)] 5)
      go_wp2_with fail
      refine (HD.out _ _ _ (heap_alloc_new w1 _)).mono ?_
      rintro e w7 ⟨rfl, hb7⟩
      have h7 := h6.below hb7 h6.lt
      have r7 := r6.below hb7 r6.lt
      have g7 := jgbe g6 hb7
      obtain ⟨f0, f1, f2, f3⟩ := r7.frees
      obtain ⟨d0, d1, d2, d3⟩ := r7.cells
      go_wp2_with fail
      exact bodyPost_ret ((r7.store4 s0 s1 s2 s3).results rfl _ rfl) rfl ⟨by rw [(HNO2.out).1], by rw [(HNO2.out).2]; exact h7.store (by omega) _ _ _ _, jgstore g7 (Nat.le_refl _) _ _ _ _⟩
end Go.Proofs.YtdnbnigebejgjaaGreatDoor
