/-
  The reader of package pattern: sets, and how often a piece stands, for every text of at most 1000 bytes; the table of signs holds what its initialiser lays.
-/
import Derived.Test.YtdnbnigebejgjaaGreatDoorHJQ4
import Derived.Test.YtdnbnigebejgjaaGreatDoorHBits
namespace Go.Proofs.YtdnbnigebejgjaaGreatDoor
open Go.RowKit
theorem named_no {t : List UInt8} {s : RS} (h : (namedV t s).2 = false) : namedR t s = s := by
  unfold namedV at h
  unfold namedR
  split at h
  · cases h
  · rename_i h0
    rw [if_neg h0]
    split at h
    · cases h
    · rename_i h1
      exact if_neg h1
set_option maxHeartbeats 4000000 in
theorem set_any (t : List UInt8) (s : RS) (x4 x5 x6 x7 : Value) (W : World) (B : Nat) (h : RD W B t s x4 x5 x6 x7) :
    Calls Tryz.prog 106 #[.pointer (some ⟨B, 0, none⟩)] W fun e w' => e = .returned (setV t s).v ∧ RD w' B t (setR t s) x4 x5 x6 x7 ∧ W.grownBy w' (some B) := by
  have hlt := h.lt
  obtain ⟨⟨⟨a, b, c, d⟩, q⟩, hq⟩ : ∃ q, namedV t s = q := ⟨_, rfl⟩
  cases q with
  | true =>
    have HV : Hid (setV t s = ⟨a, b, c, d⟩) := Lib.hid (by unfold setV; rw [hq]; exact if_pos rfl)
    have HR : Hid (setR t s = namedR t s) := Lib.hid (by unfold setR; rw [hq]; exact if_pos rfl)
    go_enter Tryz.func106, Tryz.ntmps106
    go_wp2_with fail
    refine (named_any t s x4 x5 x6 x7 _ B (jplain h _)).mono ?_
    rintro e w1 ⟨rfl, h1, hg1⟩
    rw [hq]
    have b1 : Blk w1 W.heap.size .empty := (Blk.new0 W).kept hg1 (jne hlt)
    have G1 := jgtrans (World.grownBy_alloc W _ (some B)) hg1
    have hz : W.heap.size < w1.heap.size := b1.lt
    have h3 := Blk.new w1 ⟨a, b, c, d⟩
    obtain ⟨c0, c1, c2, c3⟩ := h3.cells
    obtain ⟨d0, d1, d2, d3⟩ := b1.cells
    obtain ⟨f0, f1, f2, f3⟩ := b1.frees
    clear hg1 hq
    go_wp2_with fail
    exact bodyPost_ret (((b1.store ⟨a, b, c, d⟩).alloc _).results rfl _ rfl) rfl ⟨by rw [HV.out], by rw [HR.out]; exact jplain (jother h1 (by omega) _ _ _ _) _, jgal (jgstore G1 (Nat.le_refl _) _ _ _ _) _⟩
  | false =>
    have hnr := named_no (t := t) (s := s) (by rw [hq])
    obtain ⟨q2, hq2⟩ : ∃ q, takeB t s [46] = q := ⟨_, rfl⟩
    cases q2 with
    | true =>
      have HV : Hid (setV t s = WSet.empty.not) := Lib.hid (by unfold setV; rw [hq, if_neg (by simp), if_pos hq2])
      have HR : Hid (setR t s = takeR t s [46]) := Lib.hid (by unfold setR; rw [hq, if_neg (by simp), if_pos hq2])
      go_enter Tryz.func106, Tryz.ntmps106
      go_wp2_with fail
      refine (named_any t s x4 x5 x6 x7 _ B (jplain h _)).mono ?_
      rintro e w1 ⟨rfl, h1, hg1⟩
      rw [hq]
      rw [hnr] at h1
      have b1 : Blk w1 W.heap.size .empty := (Blk.new0 W).kept hg1 (jne hlt)
      have G1 := jgtrans (World.grownBy_alloc W _ (some B)) hg1
      clear hg1 hq
      go_wp2_with fail
      refine (take_any t s x4 x5 x6 x7 [46] (by simp) _ B (jplain h1 _)).mono ?_
      rintro e w2 ⟨rfl, h2, hg2⟩
      rw [hq2]
      have b2 := (b1.alloc (.cells #[.int .u64 a.toNat, .int .u64 b.toNat, .int .u64 c.toNat, .int .u64 d.toNat] 41)).kept hg2 (jne hlt)
      have G2 := jgtrans (jgal G1 _) hg2
      clear h1 b1 G1 hg2
      go_wp2_with fail
      refine (everything_any _).mono ?_
      rintro e w3 ⟨rfl, hb3⟩
      have h3 := h2.below hb3 h2.lt
      have b3 := b2.below hb3 b2.lt
      have G3 := jgbe G2 hb3
      obtain ⟨d0, d1, d2, d3⟩ := b3.cells
      obtain ⟨f0, f1, f2, f3⟩ := b3.frees
      clear h2 b2 G2 hb3
      go_wp2_with fail
      exact bodyPost_ret ((b3.store _).results rfl _ rfl) rfl ⟨by rw [HV.out], by rw [HR.out]; exact jother h3 (by omega) _ _ _ _, jgstore G3 (Nat.le_refl _) _ _ _ _⟩
    | false =>
      have HT := takeR_no hq2
      obtain ⟨q3, hq3⟩ : ∃ q, takeB t s [91] = q := ⟨_, rfl⟩
      cases q3 with
      | true =>
        have HV : Hid (setV t s = clsV t (takeR t s [91])) := Lib.hid (by unfold setV; rw [hq, if_neg (by simp), if_neg (by rw [hq2]; simp), if_pos hq3])
        have HR : Hid (setR t s = clsR t (takeR t s [91])) := Lib.hid (by unfold setR; rw [hq, if_neg (by simp), if_neg (by rw [hq2]; simp), if_pos hq3])
        go_enter Tryz.func106, Tryz.ntmps106
        go_wp2_with fail
        refine (named_any t s x4 x5 x6 x7 _ B (jplain h _)).mono ?_
        rintro e w1 ⟨rfl, h1, hg1⟩
        rw [hq]
        rw [hnr] at h1
        have b1 : Blk w1 W.heap.size .empty := (Blk.new0 W).kept hg1 (jne hlt)
        have G1 := jgtrans (World.grownBy_alloc W _ (some B)) hg1
        clear hg1 hq
        go_wp2_with fail
        refine (take_any t s x4 x5 x6 x7 [46] (by simp) _ B (jplain h1 _)).mono ?_
        rintro e w2 ⟨rfl, h2, hg2⟩
        rw [hq2]
        rw [HT] at h2
        have b2 := (b1.alloc (.cells #[.int .u64 a.toNat, .int .u64 b.toNat, .int .u64 c.toNat, .int .u64 d.toNat] 41)).kept hg2 (jne hlt)
        have G2 := jgtrans (jgal G1 _) hg2
        clear h1 b1 G1 hg2
        go_wp2_with fail
        refine (take_any t s x4 x5 x6 x7 [91] (by simp) _ B h2).mono ?_
        rintro e w3 ⟨rfl, h3, hg3⟩
        rw [hq3]
        have b3 := b2.kept hg3 (jne hlt)
        have G3 := jgtrans G2 hg3
        clear h2 b2 G2 hg3
        go_wp2_with fail
        refine (class_any t _ x4 x5 x6 x7 _ B h3).mono ?_
        rintro e w4 ⟨rfl, h4, hg4⟩
        have b4 := b3.kept hg4 (jne hlt)
        have G4 := jgtrans G3 hg4
        obtain ⟨d0, d1, d2, d3⟩ := b4.cells
        obtain ⟨f0, f1, f2, f3⟩ := b4.frees
        clear h3 b3 G3 hg4
        go_wp2_with fail
        exact bodyPost_ret ((b4.store _).results rfl _ rfl) rfl ⟨by rw [HV.out], by rw [HR.out]; exact jother h4 (by omega) _ _ _ _, jgstore G4 (Nat.le_refl _) _ _ _ _⟩
      | false =>
        have HT2 := takeR_no hq3
        obtain ⟨q4, hq4⟩ : ∃ q, takeB t s [92] = q := ⟨_, rfl⟩
        have HV : Hid (setV t s = ofW (oneV t (takeR t s [92]) [])) := Lib.hid (by unfold setV; rw [hq, if_neg (by simp), if_neg (by rw [hq2]; simp), if_neg (by rw [hq3]; simp)])
        have HR : Hid (setR t s = oneR t (takeR t s [92]) []) := Lib.hid (by unfold setR; rw [hq, if_neg (by simp), if_neg (by rw [hq2]; simp), if_neg (by rw [hq3]; simp)])
        go_enter Tryz.func106, Tryz.ntmps106
        go_wp2_with fail
        refine (named_any t s x4 x5 x6 x7 _ B (jplain h _)).mono ?_
        rintro e w1 ⟨rfl, h1, hg1⟩
        rw [hq]
        rw [hnr] at h1
        have b1 : Blk w1 W.heap.size .empty := (Blk.new0 W).kept hg1 (jne hlt)
        have G1 := jgtrans (World.grownBy_alloc W _ (some B)) hg1
        clear hg1 hq
        go_wp2_with fail
        refine (take_any t s x4 x5 x6 x7 [46] (by simp) _ B (jplain h1 _)).mono ?_
        rintro e w2 ⟨rfl, h2, hg2⟩
        rw [hq2]
        rw [HT] at h2
        have b2 := (b1.alloc (.cells #[.int .u64 a.toNat, .int .u64 b.toNat, .int .u64 c.toNat, .int .u64 d.toNat] 41)).kept hg2 (jne hlt)
        have G2 := jgtrans (jgal G1 _) hg2
        clear h1 b1 G1 hg2
        go_wp2_with fail
        refine (take_any t s x4 x5 x6 x7 [91] (by simp) _ B h2).mono ?_
        rintro e w3 ⟨rfl, h3, hg3⟩
        rw [hq3]
        rw [HT2] at h3
        have b3 := b2.kept hg3 (jne hlt)
        have G3 := jgtrans G2 hg3
        clear h2 b2 G2 hg3
        go_wp2_with fail
        refine (take_any t s x4 x5 x6 x7 [92] (by simp) _ B h3).mono ?_
        rintro e w4 ⟨rfl, h4, hg4⟩
        rw [hq4]
        have b4 := b3.kept hg4 (jne hlt)
        have G4 := jgtrans G3 hg4
        clear h3 b3 G3 hg4
        obtain ⟨l, hl⟩ : ∃ l, oneV t (takeR t s [92]) [] = l := ⟨_, rfl⟩
        go_wp2_with fail
        refine (one_any t _ x4 x5 x6 x7 [] _ B h4).mono ?_
        rintro e w5 ⟨rfl, h5, hg5⟩
        rw [hl]
        have b5 := b4.kept hg5 (jne hlt)
        have G5 := jgtrans G4 hg5
        clear h4 b4 G4 hg5
        go_wp2_with fail
        refine (of1 l _).mono ?_
        rintro e w6 ⟨rfl, hb6⟩
        have h6 := h5.below hb6 h5.lt
        have b6 := b5.below hb6 b5.lt
        have G6 := jgbe G5 hb6
        obtain ⟨d0, d1, d2, d3⟩ := b6.cells
        obtain ⟨f0, f1, f2, f3⟩ := b6.frees
        clear h5 b5 G5 hb6
        go_wp2_with fail
        exact bodyPost_ret ((b6.store _).results rfl _ rfl) rfl ⟨by rw [HV.out, hl], by rw [HR.out]; exact jother h6 (by omega) _ _ _ _, jgstore G6 (Nat.le_refl _) _ _ _ _⟩
/-- The table of signs holds what is laid. -/
def ST (w : World) : Prop := ∀ i, i < 4 → w.cell? ⟨0, i, none⟩ = some (.string ⟨(signL i).toArray⟩)
theorem ST.lt {w : World} (h : ST w) : 0 < w.heap.size := block_lt_of_cell (h 0 (by omega))
theorem ST.below {w w' : World} (h : ST w) (hb : Below w.heap.size w w') : ST w' := fun i hi => (hb.cell (p := ⟨_, i, none⟩) h.lt).trans (h i hi)
theorem ST.keep {w w' : World} {row : Option Nat} (h : ST w) (hg : w.grownBy w' row) (hne : some 0 ≠ row) : ST w' := fun i hi => by
  have e := hg.block 0 h.lt hne
  have k : w'.cell? ⟨0, i, none⟩ = w.cell? ⟨0, i, none⟩ := by simp [World.cell?, e]
  exact k.trans (h i hi)
theorem signL_len (i : Nat) : (signL i).length ≤ 1 := by
  unfold signL
  split <;> simp
theorem timesV_at {t : List UInt8} {s : RS} {ts : List Nat} {k : Nat} (hk : k < ts.length) : timesV t s (ts.drop k) = if takeB t s (signL ts[k]) = true then ts[k] else timesV t s (ts.drop (k + 1)) := by
  rw [List.drop_eq_getElem_cons hk]; rfl
theorem timesR_at {t : List UInt8} {s : RS} {ts : List Nat} {k : Nat} (hk : k < ts.length) : timesR t s (ts.drop k) = if takeB t s (signL ts[k]) = true then takeR t s (signL ts[k]) else timesR t s (ts.drop (k + 1)) := by
  rw [List.drop_eq_getElem_cons hk]; rfl
set_option maxHeartbeats 4000000 in
theorem times_any (t : List UInt8) (s : RS) (x4 x5 x6 x7 : Value) (ts : List Nat) (hts : ∀ x ∈ ts, x < 4) (hlen : ts.length < 1000) (W : World) (B b off cap : Nat) (h : RD W B t s x4 x5 x6 x7) (hS : ST W) (hSB : 0 < B) (hbB : b ≠ B) (hbl : b < W.heap.size)
    (hc : ∀ j (hj : j < ts.length), W.cell? ⟨b, off + j, none⟩ = some (.int .i64 (ts[j] : Int))) :
    Calls Tryz.prog 107 #[.pointer (some ⟨B, 0, none⟩), .slice (some ⟨b, off, none⟩) ts.length cap] W fun e w' => e = .returned (.int .i64 (timesV t s ts : Int)) ∧ RD w' B t (timesR t s ts) x4 x5 x6 x7 ∧ W.grownBy w' (some B) := by
  obtain ⟨V, hV⟩ : ∃ V, timesV t s ts = V := ⟨_, rfl⟩
  obtain ⟨R, hR⟩ : ∃ R, timesR t s ts = R := ⟨_, rfl⟩
  rw [hV, hR]
  have HC := Lib.hid hc
  have HT := Lib.hid hts
  have HS := Lib.hid hS
  clear hc hts hS
  go_enter Tryz.func107, Tryz.ntmps107
  go_wp2_with fail
  go_loopw [9] (fun i wr => ∃ k : Nat, k ≤ ts.length ∧ i = .int .i64 k ∧ Hid (timesV t s (ts.drop k) = V) ∧ Hid (timesR t s (ts.drop k) = R) ∧ Hid (RD wr B t s x4 x5 x6 x7) ∧ Hid (W.grownBy wr (some B))) (fun i _ => ts.length - (intOf i).toNat)
  case atStart =>
    exact ⟨0, Nat.zero_le _, rfl, Lib.hid (by rw [List.drop_zero, hV]), Lib.hid (by rw [List.drop_zero, hR]), Lib.hid h, Lib.hid (jgrefl _ _)⟩
  case round =>
    obtain ⟨k, hk, rfl, HV, HR, hD, hG⟩ := hrel
    rename World => wr
    clear h hV hR
    by_cases hlt : k < ts.length
    · have hx := HT.out _ (List.getElem_mem hlt)
      have HV2 := HV.out
      have HR2 := HR.out
      rw [timesV_at hlt] at HV2
      rw [timesR_at hlt] at HR2
      have e0 : wr.cell? ⟨b, off + k, none⟩ = some (.int .i64 (ts[k] : Int)) := by
        have := HC.out k hlt
        exact (World.cell?_of_block (w := W) (hG.out.block b hbl (fun e => hbB (by injection e)))).trans this
      obtain ⟨x, hxx⟩ : ∃ x, ts[k] = x := ⟨_, rfl⟩
      rw [hxx] at hx e0 HV2 HR2
      have hS2 := HS.out.keep hG.out (by intro e; injection e; omega)
      have e1 := hS2 x hx
      have hb1 : (x : Int) < 4 := by omega
      obtain ⟨q, hq⟩ : ∃ q, takeB t s (signL x) = q := ⟨_, rfl⟩
      rw [hq] at HV2 HR2
      have HT2 := Lib.hid (take_any t s x4 x5 x6 x7 (signL x) (by have := signL_len x; omega) wr B hD.out)
      have hne : takeB t s (signL x) = false → takeR t s (signL x) = s := takeR_no
      have HNE := Lib.hid hne
      clear HV HR hxx hS2 hx hne
      obtain ⟨g, hg⟩ : ∃ g, signL x = g := ⟨_, rfl⟩
      rw [hg] at e1 hq HT2 HNE HR2
      clear hg
      cases q with
      | true =>
        have HV3 : Hid (x = V) := Lib.hid HV2
        have HR3 : Hid (takeR t s g = R) := Lib.hid HR2
        clear HV2 HR2
        go_wp2_with fail
        refine HT2.out.mono ?_
        rintro e w2 ⟨rfl, h2, hg2⟩
        rw [hq]
        go_wp2_with fail
        go_ret
        exact ⟨by rw [HV3.out]; rfl, by rw [← HR3.out]; exact h2, jgtrans hG.out hg2⟩
      | false =>
        have HV3 : Hid (timesV t s (ts.drop (k + 1)) = V) := Lib.hid HV2
        have HR3 : Hid (timesR t s (ts.drop (k + 1)) = R) := Lib.hid HR2
        have ww : IntKind.i64.wrap ((k : Int) + 1) = (k : Int) + 1 := jwrap (by omega) (by omega)
        clear HV2 HR2
        go_wp2_with fail
        refine HT2.out.mono ?_
        rintro e w2 ⟨rfl, h2, hg2⟩
        rw [hq]
        rw [HNE.out hq] at h2
        go_wp2_with fail
        go_roundw
        case rel => exact ⟨k + 1, by omega, by go_num, HV3, HR3, Lib.hid h2, Lib.hid (jgtrans hG.out hg2)⟩
        case measure => simp [intOf]; omega
    · obtain rfl : k = ts.length := by omega
      have HV2 := HV.out
      have HR2 := HR.out
      rw [List.drop_length] at HV2 HR2
      have HV3 : Hid (V = 0) := Lib.hid HV2.symm
      have HR3 : Hid (R = s) := Lib.hid HR2.symm
      clear HV HR HV2 HR2
      go_wp2_with fail
      go_ret
      exact ⟨by rw [HV3.out]; rfl, by rw [HR3.out]; exact hD.out, hG.out⟩
end Go.Proofs.YtdnbnigebejgjaaGreatDoor
