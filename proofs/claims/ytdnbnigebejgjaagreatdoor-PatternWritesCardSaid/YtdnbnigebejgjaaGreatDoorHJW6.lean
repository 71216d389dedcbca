/-
  The reference's text of a node of a sound tree.
-/
import Derived.Test.YtdnbnigebejgjaaGreatDoorHJW5
import Derived.Test.YtdnbnigebejgjaaGreatDoorHZ6
namespace Go.Proofs.YtdnbnigebejgjaaGreatDoor
open Go.RowKit Go.Shelf
theorem snd23 {n : ND} (hk : n.kind = 2 ∨ n.kind = 3) (h : sndB n = true) : n.times = 0 := by
  unfold sndB at h
  rcases hk with hk | hk
  · rw [hk] at h
    simp at h
    exact h.1.1
  · rw [hk] at h
    simp at h
    exact h.1.1.1.1
set_option maxHeartbeats 8000000 in
set_option maxRecDepth 100000 in
theorem text19_any (L : List ND) (hL : L.length < 100000) (b off cap : Nat) (bb en : Bool) (g : Int) : ∀ (f i k fb : Nat) (W : World), beh L fb i = some k → L.length ≤ i + f → NdsIn W (some ⟨b, off, none⟩) L → b < W.heap.size →
    Calls Tryz.prog 38 #[.agg #[.slice (some ⟨b, off, none⟩) L.length cap, .bool bb, .bool en, .int .i64 g], .int .i64 (i : Int)] W fun e w' => e = .returned (.string ⟨(ntT L f i).toArray⟩) ∧ Below W.heap.size W w'
  | 0, i, k, fb, W, h, hf, _, _ => by
    have := (beh_open h).1
    omega
  | f + 1, i, k, fb, W, h, hf, hN, hb => by
    obtain ⟨hil, hkl, hie, heL⟩ := beh_open h
    have hsnd := beh_snd h
    have hlen := nt_len L (f + 1) i k fb h
    have hlenF := fun j e fb (hj : beh L fb j = some e) => nt_len L f j e fb hj
    have HI := Lib.hid fun i k fb W h1 h2 h3 h4 => text19_any L hL b off cap bb en g f i k fb W h1 h2 h3 h4
    have hN0 := hN
    have hb0 := hb
    have hs0 := CBlk.new 25 W [.slice (some ⟨b, off, none⟩) L.length cap, .bool bb, .bool en, .int .i64 g]
    have hB0 : Below W.heap.size W (W.alloc (.cells #[.slice (some ⟨b, off, none⟩) L.length cap, .bool bb, .bool en, .int .i64 g] 25)) := (Below.refl _ W).alloc (Nat.le_refl _) _
    have hN1 : NdsIn (W.alloc (.cells #[.slice (some ⟨b, off, none⟩) L.length cap, .bool bb, .bool en, .int .i64 g] 25)) (some ⟨b, off, none⟩) L := CellsIn.below hN hB0 (Nat.le_refl _)
    obtain ⟨m0, m1, m2, m3, m4, m5, m6, m7, m8⟩ := ndV_cells hN1 hil
    rw [getD_at hil] at hkl hsnd
    obtain ⟨n, hn⟩ : ∃ n, L[i] = n := ⟨_, rfl⟩
    rw [hn] at m0 m1 m2 m3 m4 m5 m6 m7 m8 hkl hsnd
    have hR : ntT L (f + 1) i = if n.kind = 1 then setT n.set ++ signL n.times.toNat else if n.kind = 4 then [40] ++ ntT L f n.first.toNat ++ [41] ++ signL n.times.toNat else Lib.join ((kidL L i).map fun k => ntT L f k.toNat) (if n.kind = 3 then [124] else []) := by
      rw [ntT]
      simp only [getD_at hil, hn]
    have hkid : kidL L i = chn L (L.length + 1) n.first := by unfold kidL; rw [getD_at hil, hn]
    rw [hkid] at hR
    obtain ⟨kd, tm, ⟨s0, s1, s2, s3⟩, gp, x0, nx0⟩ := n
    dsimp only at m0 m1 m2 m3 m4 m5 m6 m7 m8 hkl hsnd hR
    have HR := Lib.hid hR
    have HLEN := Lib.hid hlen
    have HLF := Lib.hid hlenF
    have HKL := Lib.hid hkl
    have HSND := Lib.hid hsnd
    have HB0 := Lib.hid hB0
    have HN := Lib.hid hN1
    have HN0 := Lib.hid hN0
    have HBB := Lib.hid hb0
    have hiI : (i : Int) < (L.length : Int) := by omega
    have c0 := hs0.cell 0 (by simp)
    have HS0 := Lib.hid hs0
    clear hR hlen hlenF hkl hsnd hN hkid hn hN0 hb0 hb
    have hX1 : Below (W.alloc (.cells #[.slice (some ⟨b, off, none⟩) L.length cap, .bool bb, .bool en, .int .i64 g] 25)).heap.size (W.alloc (.cells #[.slice (some ⟨b, off, none⟩) L.length cap, .bool bb, .bool en, .int .i64 g] 25)) ((W.alloc (.cells #[.slice (some ⟨b, off, none⟩) L.length cap, .bool bb, .bool en, .int .i64 g] 25)).alloc (.cells #[.int .i64 kd, .int .i64 tm, .int .u64 (s0.toNat : Int), .int .u64 (s1.toNat : Int), .int .u64 (s2.toNat : Int), .int .u64 (s3.toNat : Int), .int .i64 gp, .int .i64 x0, .int .i64 nx0] 54)) := (Below.refl _ _).alloc (Nat.le_refl _) _
    have hsX : CBlk 25 ((W.alloc (.cells #[.slice (some ⟨b, off, none⟩) L.length cap, .bool bb, .bool en, .int .i64 g] 25)).alloc (.cells #[.int .i64 kd, .int .i64 tm, .int .u64 (s0.toNat : Int), .int .u64 (s1.toNat : Int), .int .u64 (s2.toNat : Int), .int .u64 (s3.toNat : Int), .int .i64 gp, .int .i64 x0, .int .i64 nx0] 54)) W.heap.size [.slice (some ⟨b, off, none⟩) L.length cap, .bool bb, .bool en, .int .i64 g] := hs0.below hX1 hs0.lt
    have htX := CBlk.new 54 (W.alloc (.cells #[.slice (some ⟨b, off, none⟩) L.length cap, .bool bb, .bool en, .int .i64 g] 25)) [.int .i64 kd, .int .i64 tm, .int .u64 (s0.toNat : Int), .int .u64 (s1.toNat : Int), .int .u64 (s2.toNat : Int), .int .u64 (s3.toNat : Int), .int .i64 gp, .int .i64 x0, .int .i64 nx0]
    rw [World.size_alloc] at htX
    have hBX : Below W.heap.size W ((W.alloc (.cells #[.slice (some ⟨b, off, none⟩) L.length cap, .bool bb, .bool en, .int .i64 g] 25)).alloc (.cells #[.int .i64 kd, .int .i64 tm, .int .u64 (s0.toNat : Int), .int .u64 (s1.toNat : Int), .int .u64 (s2.toNat : Int), .int .u64 (s3.toNat : Int), .int .i64 gp, .int .i64 x0, .int .i64 nx0] 54)) := hB0.trans (hX1.mono hB0.size)
    have HSX := Lib.hid hsX
    have HTX := Lib.hid htX
    have HBX := Lib.hid hBX
    clear hX1 hsX htX hBX hs0 hB0 hN1 HS0 HB0 HN
    go_enter Tryz.func38, Tryz.ntmps38
    go_upto_region 2 with fail
    generalize hX : ((W.alloc (.cells #[.slice (some ⟨b, off, none⟩) L.length cap, .bool bb, .bool en, .int .i64 g] 25)).alloc (.cells #[.int .i64 kd, .int .i64 tm, .int .u64 (s0.toNat : Int), .int .u64 (s1.toNat : Int), .int .u64 (s2.toNat : Int), .int .u64 (s3.toNat : Int), .int .i64 gp, .int .i64 x0, .int .i64 nx0] 54)) = X at HSX HTX HBX ⊢
    clear hX c0 m0 m1 m2 m3 m4 m5 m6 m7 m8
    have HNX : Hid (∀ w, Below X.heap.size X w → NdsIn w (some ⟨b, off, none⟩) L ∧ b < w.heap.size) := Lib.hid fun w hw => by
      have h2 := HBX.out.trans (hw.mono HBX.out.size)
      exact ⟨CellsIn.below HN0.out h2 (Nat.le_refl _), Nat.lt_of_lt_of_le HBB.out h2.size⟩
    have HC : Hid (∀ w, Below X.heap.size X w → w.cell? ⟨W.heap.size, 0, none⟩ = some (.slice (some ⟨b, off, none⟩) L.length cap) ∧ w.cell? ⟨W.heap.size, 1, none⟩ = some (.bool bb) ∧ w.cell? ⟨W.heap.size, 2, none⟩ = some (.bool en) ∧ w.cell? ⟨W.heap.size, 3, none⟩ = some (.int .i64 g)) := Lib.hid fun w hw => by
      have s := HSX.out.below hw HSX.out.lt
      exact ⟨s.cell 0 (by simp), s.cell 1 (by simp), s.cell 2 (by simp), s.cell 3 (by simp)⟩
    have HD : Hid (∀ w, Below X.heap.size X w → w.cell? ⟨W.heap.size + 1, 0, none⟩ = some (.int .i64 kd) ∧ w.cell? ⟨W.heap.size + 1, 1, none⟩ = some (.int .i64 tm) ∧ w.cell? ⟨W.heap.size + 1, 7, none⟩ = some (.int .i64 x0) ∧ W.heap.size + 1 < w.heap.size) := Lib.hid fun w hw => by
      have s := HTX.out.below hw HTX.out.lt
      exact ⟨s.cell 0 (by simp), s.cell 1 (by simp), s.cell 7 (by simp), s.lt⟩
    have HE : X.cell? ⟨W.heap.size + 1, 2, none⟩ = some (.int .u64 (s0.toNat : Int)) ∧ X.cell? ⟨W.heap.size + 1, 3, none⟩ = some (.int .u64 (s1.toNat : Int)) ∧ X.cell? ⟨W.heap.size + 1, 4, none⟩ = some (.int .u64 (s2.toNat : Int)) ∧ X.cell? ⟨W.heap.size + 1, 5, none⟩ = some (.int .u64 (s3.toNat : Int)) := by
      have s := HTX.out
      exact ⟨s.cell 2 (by simp), s.cell 3 (by simp), s.cell 4 (by simp), s.cell 5 (by simp)⟩
    obtain ⟨e0, e1, e7, ez⟩ := HD.out X (Below.refl _ _)
    by_cases h1 : kd = 1
    · subst h1
      have hs := snd1 rfl HSND.out
      dsimp only at hs
      have HR2 := Lib.hid (HR.out.trans (if_pos rfl))
      obtain ⟨e2, e3, e4, e5⟩ := HE
      have hat := fun w => atom19_any ⟨s0, s1, s2, s3⟩ w
      have hsl := setT_len ⟨s0, s1, s2, s3⟩
      obtain ⟨O, hO⟩ : ∃ O, setT ⟨s0, s1, s2, s3⟩ = O := ⟨_, rfl⟩
      rw [hO] at hat HR2 hsl
      unfold WSet.v at hat
      have HAT := Lib.hid hat
      clear hat hO
      have ht : tm = 0 ∨ tm = 1 ∨ tm = 2 ∨ tm = 3 := by omega
      clear hs
      go_wp2_with fail
      refine (HAT.out _).mono ?_
      rintro e w3 ⟨rfl, hb3⟩
      have hB3 := Lib.hid (HBX.out.trans (hb3.mono HBX.out.size))
      clear e0 e1 e2 e3 e4 e5 e7 ez
      obtain ⟨e0, e1, e7, ez⟩ := HD.out _ hb3
      clear hb3
      rcases ht with rfl | rfl | rfl | rfl
      · have k9 : ∀ w : World, (Op.stringOp .add ⟨O.toArray⟩ ⟨#[]⟩).run Tryz.prog w = .ok (.string ⟨O.toArray⟩) w := fun w => by
          have h := jstr_add (P := Tryz.prog) (w := w) O [] (by simp; omega)
          rw [List.append_nil] at h
          exact h
        have HR3 : Hid (ntT L (f + 1) i = O) := Lib.hid (HR2.out.trans (List.append_nil O))
        go_wp2_with fail
        go_ret
        exact ⟨by rw [HR3.out]; rfl, hB3.out.alloc hB3.out.size _⟩
      · have k9 : ∀ w : World, (Op.stringOp .add ⟨O.toArray⟩ ⟨#[42]⟩).run Tryz.prog w = .ok (.string ⟨(O ++ [42]).toArray⟩) w := fun w => jstr_add O [42] (by simp; omega)
        have HR3 : Hid (ntT L (f + 1) i = O ++ [42]) := HR2
        go_wp2_with fail
        go_ret
        exact ⟨by rw [HR3.out]; rfl, hB3.out.alloc hB3.out.size _⟩
      · have k9 : ∀ w : World, (Op.stringOp .add ⟨O.toArray⟩ ⟨#[43]⟩).run Tryz.prog w = .ok (.string ⟨(O ++ [43]).toArray⟩) w := fun w => jstr_add O [43] (by simp; omega)
        have HR3 : Hid (ntT L (f + 1) i = O ++ [43]) := HR2
        go_wp2_with fail
        go_ret
        exact ⟨by rw [HR3.out]; rfl, hB3.out.alloc hB3.out.size _⟩
      · have k9 : ∀ w : World, (Op.stringOp .add ⟨O.toArray⟩ ⟨#[63]⟩).run Tryz.prog w = .ok (.string ⟨(O ++ [63]).toArray⟩) w := fun w => jstr_add O [63] (by simp; omega)
        have HR3 : Hid (ntT L (f + 1) i = O ++ [63]) := HR2
        go_wp2_with fail
        go_ret
        exact ⟨by rw [HR3.out]; rfl, hB3.out.alloc hB3.out.size _⟩
    · have n1 : (kd == 1) = false := by simpa using h1
      by_cases h4 : kd = 4
      · subst h4
        have hs := snd4 rfl HSND.out
        dsimp only at hs
        obtain ⟨hx0, _, ht1, ht2⟩ := hs
        obtain ⟨f', _, hx, hlt, k2, hbk, -⟩ := kl_open HKL.out hx0
        subst hx
        have hr := HR.out.trans ((if_neg (by decide)).trans (if_pos rfl))
        rw [Int.toNat_natCast] at hr
        have hol := HLF.out _ _ _ hbk
        have hce := (beh_open hbk).2.2.2
        have hHI := HI.out (i + 1) k2 f' X hbk (by omega) (HNX.out X (Below.refl _ _)).1 (HNX.out X (Below.refl _ _)).2
        obtain ⟨T, hT⟩ : ∃ T, ntT L f (i + 1) = T := ⟨_, rfl⟩
        rw [hT] at hHI hr hol
        have HI2 := Lib.hid hHI
        have hTl : T.length ≤ 200000000 := by omega
        obtain ⟨T1, hT1⟩ : ∃ x, [40] ++ T = x := ⟨_, rfl⟩
        obtain ⟨O, hO⟩ : ∃ x, T1 ++ [41] = x := ⟨_, rfl⟩
        have l1 : T1.length ≤ 200000001 := by rw [← hT1]; simp; omega
        have hsl : O.length ≤ 200000002 := by rw [← hO]; simp; omega
        have k1 : ∀ w : World, (Op.stringOp .add ⟨#[40]⟩ ⟨T.toArray⟩).run Tryz.prog w = .ok (.string ⟨T1.toArray⟩) w := fun w => by rw [← hT1]; exact jstr_add [40] T (by simp; omega)
        have k2' : ∀ w : World, (Op.stringOp .add ⟨T1.toArray⟩ ⟨#[41]⟩).run Tryz.prog w = .ok (.string ⟨O.toArray⟩) w := fun w => by rw [← hO]; exact jstr_add T1 [41] (by simp; omega)
        have HR2 : Hid (ntT L (f + 1) i = O ++ signL tm.toNat) := Lib.hid (by rw [hr, hT1, hO])
        have ht : tm = 0 ∨ tm = 1 ∨ tm = 2 ∨ tm = 3 := by omega
        obtain ⟨c0, c1, c2, c3⟩ := HC.out X (Below.refl _ _)
        clear ht1 ht2 hbk hol hce hHI hT hT1 hO hr h1 hx0 hlt HE l1
        go_wp2_with fail
        refine HI2.out.mono ?_
        rintro e w3 ⟨rfl, hb3⟩
        have hB3 := Lib.hid (HBX.out.trans (hb3.mono HBX.out.size))
        clear e0 e1 e7 ez c0 c1 c2 c3 HI2
        obtain ⟨e0, e1, e7, ez⟩ := HD.out _ hb3
        clear hb3
        rcases ht with rfl | rfl | rfl | rfl
        · have k9 : ∀ w : World, (Op.stringOp .add ⟨O.toArray⟩ ⟨#[]⟩).run Tryz.prog w = .ok (.string ⟨O.toArray⟩) w := fun w => by
            have h := jstr_add (P := Tryz.prog) (w := w) O [] (by simp; omega)
            rw [List.append_nil] at h
            exact h
          have HR3 : Hid (ntT L (f + 1) i = O) := Lib.hid (HR2.out.trans (List.append_nil O))
          go_wp2_with fail
          go_ret
          exact ⟨by rw [HR3.out]; rfl, hB3.out.alloc hB3.out.size _⟩
        · have k9 : ∀ w : World, (Op.stringOp .add ⟨O.toArray⟩ ⟨#[42]⟩).run Tryz.prog w = .ok (.string ⟨(O ++ [42]).toArray⟩) w := fun w => jstr_add O [42] (by simp; omega)
          have HR3 : Hid (ntT L (f + 1) i = O ++ [42]) := HR2
          go_wp2_with fail
          go_ret
          exact ⟨by rw [HR3.out]; rfl, hB3.out.alloc hB3.out.size _⟩
        · have k9 : ∀ w : World, (Op.stringOp .add ⟨O.toArray⟩ ⟨#[43]⟩).run Tryz.prog w = .ok (.string ⟨(O ++ [43]).toArray⟩) w := fun w => jstr_add O [43] (by simp; omega)
          have HR3 : Hid (ntT L (f + 1) i = O ++ [43]) := HR2
          go_wp2_with fail
          go_ret
          exact ⟨by rw [HR3.out]; rfl, hB3.out.alloc hB3.out.size _⟩
        · have k9 : ∀ w : World, (Op.stringOp .add ⟨O.toArray⟩ ⟨#[63]⟩).run Tryz.prog w = .ok (.string ⟨(O ++ [63]).toArray⟩) w := fun w => jstr_add O [63] (by simp; omega)
          have HR3 : Hid (ntT L (f + 1) i = O ++ [63]) := HR2
          go_wp2_with fail
          go_ret
          exact ⟨by rw [HR3.out]; rfl, hB3.out.alloc hB3.out.size _⟩
      · have n4 : (kd == 4) = false := by simpa using h4
        have hk23 : kd = 2 ∨ kd = 3 := by
          have := snd_kind HSND.out
          dsimp only at this
          omega
        have htm : tm = 0 := snd23 hk23 HSND.out
        subst htm
        have hr := HR.out.trans ((if_neg h1).trans (if_neg h4))
        have hol := HLEN.out
        obtain ⟨R, hRR⟩ : ∃ R, ntT L (f + 1) i = R := ⟨_, rfl⟩
        rw [hRR] at hr hol
        have HRR := Lib.hid hRR
        have hRl : R.length ≤ 200000000 := by omega
        have hx0 : Hid (x0 ≠ -1 → x0 = (i : Int) + 1) := Lib.hid fun hx => by
          obtain ⟨_, _, hx, _⟩ := kl_open HKL.out hx
          rw [hx]
          omega
        clear h1 h4 hRR hol HE
        rcases hk23 with rfl | rfl
        · have hr2 : Lib.join ((chn L (L.length + 1) x0).map fun k => ntT L f k.toNat) [] = R := hr.symm
          have HR0 := Lib.hid hr2
          clear hr hr2
          go_wp2_with fail
          go_loopw [6, 7] (fun ov cv wr => ∃ (nx fk F : Nat) (c : Int) (O : List UInt8), ov = .string ⟨O.toArray⟩ ∧ cv = .int .i64 c ∧ i + 1 ≤ nx ∧ L.length ≤ nx + F ∧ Hid (kl L fk 2 nx c = some k) ∧ Hid (O ++ (if c = x0 then Lib.join ((chn L F c).map fun k => ntT L f k.toNat) [] else Lib.joinTail [] ((chn L F c).map fun k => ntT L f k.toNat)) = R) ∧ Hid (c ≠ -1 → x0 ≠ -1) ∧ Hid (Below X.heap.size X wr)) (fun _ cv _ => if intOf cv < 0 then 0 else L.length - (intOf cv).toNat)
          case atStart => exact ⟨i + 1, _, L.length + 1, x0, [], rfl, rfl, Nat.le_refl _, by omega, HKL, Lib.hid (by rw [if_pos rfl]; exact HR0.out), Lib.hid (fun h => h), Lib.hid (Below.refl _ _)⟩
          case round =>
            clear e0 e1 e7 ez HR0
            obtain ⟨nx, fk, F, c, O, rfl, rfl, hnx, hF, hkk, hall, hxx, hbl⟩ := hrel
            obtain ⟨e0, e1, e7, ez⟩ := HD.out _ hbl.out
            obtain ⟨c0, c1, c2, c3⟩ := HC.out _ hbl.out
            have hOl : O.length ≤ 200000000 := by
              have := congrArg List.length hall.out
              rw [List.length_append] at this
              omega
            by_cases hc : c = -1
            · subst hc
              have hO : O = R := by
                have h := hall.out
                rw [chn_none, List.map_nil] at h
                split at h
                · rw [Lib.join_nil, List.append_nil] at h; exact h
                · exact (List.append_nil O).symm.trans h
              subst hO
              have k9 : ∀ w : World, (Op.stringOp .add ⟨O.toArray⟩ ⟨#[]⟩).run Tryz.prog w = .ok (.string ⟨O.toArray⟩) w := fun w => by
                have h := jstr_add (P := Tryz.prog) (w := w) O [] (by simp; omega)
                rw [List.append_nil] at h
                exact h
              have hB3 := Lib.hid (HBX.out.trans (hbl.out.mono HBX.out.size))
              clear hall hkk hbl c0 c1 c2 c3
              go_wp2_with fail
              go_ret
              exact ⟨by rw [HRR.out]; rfl, hB3.out.alloc hB3.out.size _⟩
            · have hcb : (c != -1) = true := by simpa using hc
              have hxi := hx0.out (hxx.out hc)
              obtain ⟨f', _, rfl, hlt, k2, hbk, h4⟩ := kl_open hkk.out hc
              obtain ⟨F, rfl⟩ : ∃ G, F = G + 1 := ⟨F - 1, by omega⟩
              have hge := (beh_open hbk).2.2
              have hal := hall.out
              rw [chn_next (by omega) (by omega), List.map_cons, Int.toNat_natCast] at hal
              rw [getD_at hlt] at h4 hal
              have HHI := Lib.hid (HI.out nx k2 f' wr hbk (by omega) (HNX.out _ hbl.out).1 (HNX.out _ hbl.out).2)
              have hTl := HLF.out _ _ _ hbk
              obtain ⟨T, hT⟩ : ∃ T, ntT L f nx = T := ⟨_, rfl⟩
              rw [hT] at HHI hTl hal
              have hTl2 : T.length ≤ 200000000 := by omega
              obtain ⟨y, hy⟩ : ∃ y, L[nx].next = y := ⟨_, rfl⟩
              rw [hy] at h4 hal
              have hyx : y ≠ x0 := by
                rw [hxi]
                by_cases e : y = -1
                · omega
                · obtain ⟨_, _, h5, _⟩ := kl_open h4 e
                  omega
              have H4 := Lib.hid h4
              have HY := Lib.hid hy
              have HYX := Lib.hid hyx
              have hxx2 : Hid (y ≠ -1 → x0 ≠ -1) := Lib.hid fun _ => by omega
              have hk2 : nx < k2 := hge.1
              have HLT := Lib.hid hlt
              have hnI : (nx : Int) < (L.length : Int) := by omega
              have hmes : Hid ((if y < 0 then 0 else L.length - y.toNat) < L.length - nx) := Lib.hid (by
                by_cases e : y = -1
                · rw [e, if_pos (by omega)]; omega
                · obtain ⟨_, _, h5, _⟩ := kl_open h4 e
                  rw [h5, if_neg (by omega)]; omega)
              clear hkk hall hbk h4 hT hy hyx hxx hge
              obtain ⟨O2, hO2⟩ : ∃ x, O ++ T = x := ⟨_, rfl⟩
              have k1 : ∀ w : World, (Op.stringOp .add ⟨O.toArray⟩ ⟨T.toArray⟩).run Tryz.prog w = .ok (.string ⟨O2.toArray⟩) w := fun w => by rw [← hO2]; exact jstr_add O T (by omega)
              have HAL : Hid (O2 ++ (if y = x0 then Lib.join ((chn L F y).map fun k => ntT L f k.toNat) [] else Lib.joinTail [] ((chn L F y).map fun k => ntT L f k.toNat)) = R) := Lib.hid (by
                rw [if_neg HYX.out, ← hal, ← hO2, List.append_assoc]
                congr 1
                split
                · rw [Lib.join_cons]
                · rfl)
              clear hal hO2 hxi
              go_wp2_with fail
              refine HHI.out.mono ?_
              rintro q w5 ⟨rfl, hb5⟩
              have hb6 := hbl.out.trans (hb5.mono hbl.out.size)
              have m8 := (ndV_cells (HNX.out _ hb6).1 HLT.out).2.2.2.2.2.2.2.2
              rw [HY.out] at m8
              clear c0 c1 c2 c3 e0 e1 e7 ez
              obtain ⟨c0, c1, c2, c3⟩ := HC.out _ hb6
              have HB6 := Lib.hid hb6
              clear hb5 hb6 HHI hbl
              go_wp2_with fail
              go_roundw
              case rel => exact ⟨k2, f', F, y, O2, rfl, rfl, by omega, by omega, H4, HAL, hxx2, HB6⟩
              case measure =>
                have h9 := hmes.out
                show (if y < 0 then 0 else L.length - y.toNat) < (if (nx : Int) < 0 then 0 else L.length - ((nx : Int)).toNat)
                rw [if_neg (by omega : ¬ (nx : Int) < 0), Int.toNat_natCast]
                exact h9
        · have hr2 : Lib.join ((chn L (L.length + 1) x0).map fun k => ntT L f k.toNat) [124] = R := hr.symm
          have HR0 := Lib.hid hr2
          clear hr hr2
          go_wp2_with fail
          go_loopw [6, 7] (fun ov cv wr => ∃ (nx fk F : Nat) (c : Int) (O : List UInt8), ov = .string ⟨O.toArray⟩ ∧ cv = .int .i64 c ∧ i + 1 ≤ nx ∧ L.length ≤ nx + F ∧ Hid (kl L fk 3 nx c = some k) ∧ Hid (O ++ (if c = x0 then Lib.join ((chn L F c).map fun k => ntT L f k.toNat) [124] else Lib.joinTail [124] ((chn L F c).map fun k => ntT L f k.toNat)) = R) ∧ Hid (c ≠ -1 → x0 ≠ -1) ∧ Hid (Below X.heap.size X wr)) (fun _ cv _ => if intOf cv < 0 then 0 else L.length - (intOf cv).toNat)
          case atStart => exact ⟨i + 1, _, L.length + 1, x0, [], rfl, rfl, Nat.le_refl _, by omega, HKL, Lib.hid (by rw [if_pos rfl]; exact HR0.out), Lib.hid (fun h => h), Lib.hid (Below.refl _ _)⟩
          case round =>
            clear e0 e1 e7 ez HR0
            obtain ⟨nx, fk, F, c, O, rfl, rfl, hnx, hF, hkk, hall, hxx, hbl⟩ := hrel
            obtain ⟨e0, e1, e7, ez⟩ := HD.out _ hbl.out
            obtain ⟨c0, c1, c2, c3⟩ := HC.out _ hbl.out
            have hOl : O.length ≤ 200000000 := by
              have := congrArg List.length hall.out
              rw [List.length_append] at this
              omega
            by_cases hc : c = -1
            · subst hc
              have hO : O = R := by
                have h := hall.out
                rw [chn_none, List.map_nil] at h
                split at h
                · rw [Lib.join_nil, List.append_nil] at h; exact h
                · exact (List.append_nil O).symm.trans h
              subst hO
              have k9 : ∀ w : World, (Op.stringOp .add ⟨O.toArray⟩ ⟨#[]⟩).run Tryz.prog w = .ok (.string ⟨O.toArray⟩) w := fun w => by
                have h := jstr_add (P := Tryz.prog) (w := w) O [] (by simp; omega)
                rw [List.append_nil] at h
                exact h
              have hB3 := Lib.hid (HBX.out.trans (hbl.out.mono HBX.out.size))
              clear hall hkk hbl c0 c1 c2 c3
              go_wp2_with fail
              go_ret
              exact ⟨by rw [HRR.out]; rfl, hB3.out.alloc hB3.out.size _⟩
            · have hcb : (c != -1) = true := by simpa using hc
              have hxi := hx0.out (hxx.out hc)
              obtain ⟨f', _, rfl, hlt, k2, hbk, h4⟩ := kl_open hkk.out hc
              obtain ⟨F, rfl⟩ : ∃ G, F = G + 1 := ⟨F - 1, by omega⟩
              have hge := (beh_open hbk).2.2
              have hal := hall.out
              rw [chn_next (by omega) (by omega), List.map_cons, Int.toNat_natCast] at hal
              rw [getD_at hlt] at h4 hal
              have HHI := Lib.hid (HI.out nx k2 f' wr hbk (by omega) (HNX.out _ hbl.out).1 (HNX.out _ hbl.out).2)
              have hTl := HLF.out _ _ _ hbk
              obtain ⟨T, hT⟩ : ∃ T, ntT L f nx = T := ⟨_, rfl⟩
              rw [hT] at HHI hTl hal
              have hTl2 : T.length ≤ 200000000 := by omega
              obtain ⟨y, hy⟩ : ∃ y, L[nx].next = y := ⟨_, rfl⟩
              rw [hy] at h4 hal
              have hyx : y ≠ x0 := by
                rw [hxi]
                by_cases e : y = -1
                · omega
                · obtain ⟨_, _, h5, _⟩ := kl_open h4 e
                  omega
              have H4 := Lib.hid h4
              have HY := Lib.hid hy
              have HYX := Lib.hid hyx
              have hxx2 : Hid (y ≠ -1 → x0 ≠ -1) := Lib.hid fun _ => by omega
              have hk2 : nx < k2 := hge.1
              have HLT := Lib.hid hlt
              have hnI : (nx : Int) < (L.length : Int) := by omega
              have hmes : Hid ((if y < 0 then 0 else L.length - y.toNat) < L.length - nx) := Lib.hid (by
                by_cases e : y = -1
                · rw [e, if_pos (by omega)]; omega
                · obtain ⟨_, _, h5, _⟩ := kl_open h4 e
                  rw [h5, if_neg (by omega)]; omega)
              clear hkk hall hbk h4 hT hy hyx hxx hge
              by_cases hq : (nx : Int) = x0
              · have hqb : ((nx : Int) != x0) = false := by simpa using hq
                obtain ⟨O2, hO2⟩ : ∃ x, O ++ T = x := ⟨_, rfl⟩
                have k1 : ∀ w : World, (Op.stringOp .add ⟨O.toArray⟩ ⟨T.toArray⟩).run Tryz.prog w = .ok (.string ⟨O2.toArray⟩) w := fun w => by rw [← hO2]; exact jstr_add O T (by omega)
                have HAL : Hid (O2 ++ (if y = x0 then Lib.join ((chn L F y).map fun k => ntT L f k.toNat) [124] else Lib.joinTail [124] ((chn L F y).map fun k => ntT L f k.toNat)) = R) := Lib.hid (by
                  rw [if_neg HYX.out, ← hal, ← hO2, List.append_assoc, if_pos hq, Lib.join_cons])
                clear hal hO2 hxi hq
                go_wp2_with fail
                refine HHI.out.mono ?_
                rintro q w5 ⟨rfl, hb5⟩
                have hb6 := hbl.out.trans (hb5.mono hbl.out.size)
                have m8 := (ndV_cells (HNX.out _ hb6).1 HLT.out).2.2.2.2.2.2.2.2
                rw [HY.out] at m8
                clear c0 c1 c2 c3 e0 e1 e7 ez
                obtain ⟨c0, c1, c2, c3⟩ := HC.out _ hb6
                have HB6 := Lib.hid hb6
                clear hb5 hb6 HHI hbl
                go_wp2_with fail
                go_roundw
                case rel => exact ⟨k2, f', F, y, O2, rfl, rfl, by omega, by omega, H4, HAL, hxx2, HB6⟩
                case measure =>
                  have h9 := hmes.out
                  show (if y < 0 then 0 else L.length - y.toNat) < (if (nx : Int) < 0 then 0 else L.length - ((nx : Int)).toNat)
                  rw [if_neg (by omega : ¬ (nx : Int) < 0), Int.toNat_natCast]
                  exact h9
              · have hqb : ((nx : Int) != x0) = true := by simpa using hq
                obtain ⟨O1, hO1⟩ : ∃ x, O ++ [124] = x := ⟨_, rfl⟩
                obtain ⟨O2, hO2⟩ : ∃ x, O1 ++ T = x := ⟨_, rfl⟩
                have l1 : O1.length ≤ 200000001 := by rw [← hO1]; simp; omega
                have k0 : ∀ w : World, (Op.stringOp .add ⟨O.toArray⟩ ⟨#[124]⟩).run Tryz.prog w = .ok (.string ⟨O1.toArray⟩) w := fun w => by rw [← hO1]; exact jstr_add O [124] (by simp; omega)
                have k1 : ∀ w : World, (Op.stringOp .add ⟨O1.toArray⟩ ⟨T.toArray⟩).run Tryz.prog w = .ok (.string ⟨O2.toArray⟩) w := fun w => by rw [← hO2]; exact jstr_add O1 T (by omega)
                have HAL : Hid (O2 ++ (if y = x0 then Lib.join ((chn L F y).map fun k => ntT L f k.toNat) [124] else Lib.joinTail [124] ((chn L F y).map fun k => ntT L f k.toNat)) = R) := Lib.hid (by
                  rw [if_neg HYX.out, ← hal, ← hO2, ← hO1, if_neg hq]
                  simp only [Lib.joinTail, List.map_cons, List.flatten_cons, List.append_assoc])
                clear hal hO2 hO1 hxi hq l1
                go_wp2_with fail
                refine HHI.out.mono ?_
                rintro q w5 ⟨rfl, hb5⟩
                have hb6 := hbl.out.trans (hb5.mono hbl.out.size)
                have m8 := (ndV_cells (HNX.out _ hb6).1 HLT.out).2.2.2.2.2.2.2.2
                rw [HY.out] at m8
                clear c0 c1 c2 c3 e0 e1 e7 ez
                obtain ⟨c0, c1, c2, c3⟩ := HC.out _ hb6
                have HB6 := Lib.hid hb6
                clear hb5 hb6 HHI hbl
                go_wp2_with fail
                go_roundw
                case rel => exact ⟨k2, f', F, y, O2, rfl, rfl, by omega, by omega, H4, HAL, hxx2, HB6⟩
                case measure =>
                  have h9 := hmes.out
                  show (if y < 0 then 0 else L.length - y.toNat) < (if (nx : Int) < 0 then 0 else L.length - ((nx : Int)).toNat)
                  rw [if_neg (by omega : ¬ (nx : Int) < 0), Int.toNat_natCast]
                  exact h9
end Go.Proofs.YtdnbnigebejgjaaGreatDoor
