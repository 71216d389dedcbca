/-
  The reference's Kids, for all nodes.
  The reference's place, last and lies, for trees without an error.
  The reference's lies and Inside.
  The reference's Inside.
-/
import Derived.Test.YtdnbnigebejgjaaGreatDoorHJZ5
import Derived.Test.YtdnbnigebejgjaaGreatDoorHA7
import Derived.Deep.RegionHeld3
namespace Go.Proofs.YtdnbnigebejgjaaGreatDoor
open Go.RowKit Go.Shelf
def slLen : Value → Nat
  | .slice _ n _ => n
  | _ => 0
set_option maxHeartbeats 8000000 in
set_option maxRecDepth 100000 in
theorem refKids_any (L : List ND) (hL : L.length < 100000) (v : Value) (bb en : Bool) (g k : Int) (W : World) (h : NdsAt W v L) :
    Calls Tryz.prog 20 #[.agg #[v, .bool bb, .bool en, .int .i64 g], .int .i64 k] W fun e w' => ∃ u, e = .returned (.tuple #[u, .int .i64 (kidR L g k).2]) ∧ w'.ownsRow W.heap.size 3 1 u (kidR L g k).1.length ((kidR L g k).1.map intV) ∧ Below W.heap.size W w' := by
  obtain ⟨i0, hi, hz0, hz1, hz2⟩ := info_parts infoI
  have t0 := CBlk.new 25 W [v, .bool bb, .bool en, .int .i64 g]
  have hB1 : Below W.heap.size W (W.alloc (.cells #[v, .bool bb, .bool en, .int .i64 g] 25)) := (Below.refl _ W).alloc (Nat.le_refl _) _
  have HC := Lib.hid (refCheck_any L (by omega) v bb en g (W.alloc (.cells #[v, .bool bb, .bool en, .int .i64 g] 25)) (h.below hB1 (Nat.le_refl _)))
  obtain ⟨p, cap, rfl, hcap, hN⟩ := h
  obtain ⟨c, hc⟩ : ∃ c, chkR L g = c := ⟨_, rfl⟩
  rw [hc] at HC
  by_cases h0 : c = 0
  case neg =>
    have HR : Hid (kidR L g k = ([], c)) := Lib.hid (by unfold kidR; rw [hc, if_neg h0])
    have a1 : (c == 0) = false := beq_eq_false_iff_ne.2 h0
    have a2 : (c != 0) = true := by simpa using h0
    clear h0 hc hN
    go_enter Tryz.func20, Tryz.ntmps20
    go_wp2_with fail
    refine HC.out.mono ?_
    rintro e w2 ⟨rfl, hb2⟩
    go_wp2_with fail
    go_ret2
    rw [HR.out]
    exact ⟨_, rfl, World.ownsRow_nil _ _ _ _, hB1.trans (hb2.mono hB1.size)⟩
  subst h0
  have a1 : ((0 : Int) == 0) = true := rfl
  by_cases hk0 : k < 0
  · have HR : Hid (kidR L g k = ([], 2)) := Lib.hid (by unfold kidR; rw [if_pos hc, if_neg (by omega)])
    have a2 : decide (k < 0) = true := decide_eq_true hk0
    clear hc hN
    go_enter Tryz.func20, Tryz.ntmps20
    go_wp2_with fail
    refine HC.out.mono ?_
    rintro e w2 ⟨rfl, hb2⟩
    go_wp2_with fail
    go_ret2
    rw [HR.out]
    exact ⟨_, rfl, World.ownsRow_nil _ _ _ _, hB1.trans (hb2.mono hB1.size)⟩
  have a2 : decide (k < 0) = false := decide_eq_false hk0
  obtain ⟨i, rfl⟩ := Int.eq_ofNat_of_zero_le (by omega : 0 ≤ k)
  by_cases hil : i < L.length
  case neg =>
    have HR : Hid (kidR L g (i : Int) = ([], 2)) := Lib.hid (by unfold kidR; rw [if_pos hc, if_neg (by omega)])
    have a3 : decide ((L.length : Int) ≤ (i : Int)) = true := decide_eq_true (by omega)
    have a4 : decide (L.length ≤ i) = true := decide_eq_true (by omega)
    go_enter Tryz.func20, Tryz.ntmps20
    go_wp2_with fail
    refine HC.out.mono ?_
    rintro e w2 ⟨rfl, hb2⟩
    have t2 := t0.below hb2 t0.lt
    have c0 := t2.cell 0 (by simp)
    clear hc hN
    go_wp2_with fail
    go_ret2
    rw [HR.out]
    exact ⟨_, rfl, World.ownsRow_nil _ _ _ _, hB1.trans (hb2.mono hB1.size)⟩
  have a3 : decide ((L.length : Int) ≤ (i : Int)) = false := decide_eq_false (by omega)
  have a4 : decide (L.length ≤ i) = false := decide_eq_false (by omega)
  have hiI : (i : Int) < (L.length : Int) := by omega
  obtain ⟨b, off, rfl, hb⟩ := nds_place hN (by omega)
  have HR : Hid (kidR L g (i : Int) = (kidL L i, 0)) := Lib.hid (by unfold kidR; rw [if_pos hc, if_pos ⟨by omega, hiI⟩, Int.toNat_natCast])
  have hkl : ∃ f kd nx e, kl L f kd nx (L.getD i (bare 0 .empty 0)).first = some e ∧ L.length + 1 ≤ nx + (L.length + 1) := by
    obtain ⟨_, ht, _⟩ := chk_zero hc
    obtain ⟨_, _, f3⟩ := treeB_facts ht
    obtain ⟨k2, hk2, _, _⟩ := beh_all f3 i (Nat.zero_le _) hil
    obtain ⟨_, b2, _, _⟩ := beh_open hk2
    exact ⟨_, _, _, _, b2, by omega⟩
  have hKl : (kidL L i).length ≤ 200000 := Nat.le_trans (chn_len L _ _) (by omega)
  obtain ⟨K, hK⟩ : ∃ K, kidL L i = K := ⟨_, rfl⟩
  have hK2 : chn L (L.length + 1) (L.getD i (bare 0 .empty 0)).first = K := hK
  have hgi : L.getD i (bare 0 .empty 0) = L[i] := by rw [List.getD_eq_getElem?_getD, List.getElem?_eq_getElem hil]; rfl
  rw [hK] at HR hKl
  rw [hgi] at hkl hK2
  have HKL := Lib.hid hkl
  have HK2 := Lib.hid hK2
  have HN := Lib.hid hN
  clear hkl hK hK2 hgi hc hN
  go_enter Tryz.func20, Tryz.ntmps20
  go_wp2_with fail
  refine HC.out.mono ?_
  rintro e w2 ⟨rfl, hb2⟩
  have t2 := t0.below hb2 t0.lt
  have hB2 := hB1.trans (hb2.mono hB1.size)
  have c0 := t2.cell 0 (by simp)
  have hN2 := HN.out.below hB2 (Nat.le_refl _)
  have m7 := (ndV_cells hN2 hil).2.2.2.2.2.2.2.1
  have HT2 := Lib.hid t2
  have HB2 := Lib.hid hB2
  have hlt2 := t2.lt
  have hbw : b < w2.heap.size := Nat.lt_of_lt_of_le hb hB2.size
  obtain ⟨x0, hx0⟩ : ∃ x, L[i].first = x := ⟨_, rfl⟩
  rw [hx0] at m7 HKL HK2
  have HN2 := Lib.hid hN2
  clear hx0 hN2 hB2 hb2 hB1 t0 HC HN
  go_wp2_with fail
  clear m7 c0
  go_loopw [7, 8] (fun ov xv wr => ∃ (j : Nat) (x : Int), xv = .int .i64 x ∧ j ≤ K.length ∧ Hid (∃ f kd nx e F, kl L f kd nx x = some e ∧ chn L F x = K.drop j ∧ L.length + 1 ≤ nx + F) ∧ Hid (wr.ownsRow w2.heap.size 3 1 ov j ((K.take j).map intV)) ∧ Hid (Below w2.heap.size w2 wr)) (fun ov _ _ => K.length + 1 - slLen ov)
  case atStart =>
    refine ⟨0, x0, rfl, Nat.zero_le _, Lib.hid ?_, Lib.hid (World.ownsRow_nil _ _ _ _), Lib.hid (Below.refl _ _)⟩
    obtain ⟨f, kd, nx, e, h1, h2⟩ := HKL.out
    exact ⟨f, kd, nx, e, L.length + 1, h1, HK2.out, h2⟩
  case round =>
    obtain ⟨j, x, rfl, hj, hch, ho, hb9⟩ := hrel
    rename World => wr
    have t3 := HT2.out.below hb9.out hlt2
    have c0 := t3.cell 0 (by simp)
    obtain ⟨po, co, rfl⟩ := own_slice ho.out
    by_cases hx : x = -1
    · subst hx
      have hjl : j = K.length := by
        obtain ⟨f, kd, nx, e, F, _, h2, _⟩ := hch.out
        rw [chn_none] at h2
        have := congrArg List.length h2
        simp at this
        omega
      subst hjl
      have hBW := HB2.out.trans (hb9.out.mono HB2.out.size)
      have hrow := ho.out
      rw [List.take_length] at hrow
      have HRW := Lib.hid (own_low hrow HB2.out.size)
      clear hch ho c0 t3 hrow
      go_wp2_with fail
      go_ret2
      rw [HR.out]
      exact ⟨_, rfl, HRW.out, hBW⟩
    · have e1 : (x != -1) = true := by simpa using hx
      obtain ⟨f, kd, nx, e, F, h1, h2, h3⟩ := hch.out
      obtain ⟨f', _, rfl, hlt, k2, hbk, h4⟩ := kl_open h1 hx
      have hbo := beh_open hbk
      obtain ⟨F, rfl⟩ : ∃ F', F = F' + 1 := ⟨F - 1, by omega⟩
      rw [chn_next (by omega) (by omega), Int.toNat_natCast] at h2
      have hjK : j < K.length := by
        apply Nat.lt_of_not_le
        intro hle
        rw [List.drop_eq_nil_of_le hle] at h2
        cases h2
      rw [List.drop_eq_getElem_cons hjK] at h2
      injection h2 with h5 h6
      have hgn : L.getD nx (bare 0 .empty 0) = L[nx] := by rw [List.getD_eq_getElem?_getD, List.getElem?_eq_getElem hlt]; rfl
      rw [hgn] at h4 h6
      have hch2 : Hid (∃ f kd n2 e F, kl L f kd n2 L[nx].next = some e ∧ chn L F L[nx].next = K.drop (j + 1) ∧ L.length + 1 ≤ n2 + F) := Lib.hid ⟨f', kd, k2, e, F, h4, h6, by omega⟩
      have htk : Hid (K.take (j + 1) = K.take j ++ [(nx : Int)]) := Lib.hid (by rw [List.take_add_one, List.getElem?_eq_getElem hjK, ← h5]; rfl)
      have hnI : (nx : Int) < (L.length : Int) := by omega
      have hj9 : j < 300000 := by omega
      obtain ⟨y, hy⟩ : ∃ y, L[nx].next = y := ⟨_, rfl⟩
      rw [hy] at hch2
      have HY := Lib.hid hy
      have hszw := hb9.out.size
      clear hch h1 h3 h4 h5 h6 hbk hbo hgn hx c0 hy
      go_wp2_with (at_builtin; refine wpList_append_own _ rfl _ _ 45 rfl w2.heap.size 3 i0 (.int .i64 0) 1 8 Tryz.underlying45 hi hz0 hz1 hz2 rfl (by decide) _ _ _ rfl (ho.out.alloc _) ⟨wr.heap.size, 0, none⟩ 1 1 [.int .i64 (nx : Int)] rfl rfl (cell_one_new _ _ _) (by simp [Value.oneCell']) (by unfold maxLen; omega) (by omega) (by simp; omega) ?_; intro kv2 w5 o5 g5 _; have hba := hb9.out.alloc hszw (.cells #[.int .i64 (nx : Int)] 3); have hb5 := below_grown hba (by rw [World.size_alloc]; omega) g5 (fun r hr => (ho.out.lt r hr).1); have o6 : w5.ownsRow w2.heap.size 3 1 kv2 (j + 1) ((K.take (j + 1)).map intV) := (by rw [htk.out, List.map_append]; exact o5); have t5 := HT2.out.below hb5 hlt2; have c0 := t5.cell 0 (by simp); have m8 := (ndV_cells (HN2.out.below hb5 (Nat.le_refl _)) hlt).2.2.2.2.2.2.2.2; rw [HY.out] at m8; have hO6 := Lib.hid o6; have hB5 := Lib.hid hb5; obtain ⟨p5, q5, rfl⟩ := own_slice o6; clear o5 o6 g5 hba hb5 t5)
      go_roundw
      case rel => exact ⟨j + 1, y, rfl, by omega, hch2, hO6, hB5⟩
      case measure =>
        simp only [slLen]
        omega
end Go.Proofs.YtdnbnigebejgjaaGreatDoor
namespace Go.Proofs.YtdnbnigebejgjaaGreatDoor
open Go.RowKit Go.Shelf
/-- Where the reference finds a group. -/
def plcR (L : List ND) (o : Int) : Nat := match L.findIdx? (fun n => decide (n.group = o) && decide (n.kind = 4)) with
  | some i => i
  | none => 0
theorem plcR_at {L : List ND} {o : Int} {j : Nat} (hj : j < L.length) (h1 : L[j].group = o) (h2 : L[j].kind = 4) (hp : ∀ i (hi : i < L.length), i < j → ¬(L[i].group = o ∧ L[i].kind = 4)) : plcR L o = j := by
  unfold plcR
  have : L.findIdx? (fun n => decide (n.group = o) && decide (n.kind = 4)) = some j := by
    rw [List.findIdx?_eq_some_iff_getElem]
    refine ⟨hj, by simp [h1, h2], fun i hi => ?_⟩
    have := hp i (by omega) hi
    simpa using this
  rw [this]
theorem plcR_none {L : List ND} {o : Int} (hp : ∀ i (hi : i < L.length), ¬(L[i].group = o ∧ L[i].kind = 4)) : plcR L o = 0 := by
  unfold plcR
  have : L.findIdx? (fun n => decide (n.group = o) && decide (n.kind = 4)) = none := by
    rw [List.findIdx?_eq_none_iff]
    intro n hn
    obtain ⟨i, hi, rfl⟩ := List.mem_iff_getElem.1 hn
    have := hp i hi
    simpa using this
  rw [this]
theorem getD_at {L : List ND} {i : Nat} (hi : i < L.length) : L.getD i (bare 0 .empty 0) = L[i] := by rw [List.getD_eq_getElem?_getD, List.getElem?_eq_getElem hi]; rfl
theorem plcR_grp {L : List ND} {g o : Int} (h : chkR L g = 0) (h0 : 0 ≤ o) {p k : Nat} (hg : GrpAt L o p k) : plcR L o = p := by
  obtain ⟨hp, he⟩ := plc_is hg.pl
  have hmin : ∀ i (hi : i < L.length), i < p → L[i].group ≠ o := by
    have := hg.pl
    unfold plc at this
    rw [List.findIdx?_eq_some_iff_getElem] at this
    obtain ⟨_, _, h3⟩ := this
    intro i hi hip
    have := h3 i hip
    simpa using this
  by_cases ho : 1 ≤ o
  · have hk := hg.kd ho
    rw [getD_at hp] at hk he
    exact plcR_at hp he hk (fun i hi hip hh => hmin i hi hip hh.1)
  · obtain rfl : o = 0 := by omega
    have hz : plcR L 0 = 0 := plcR_none fun i hi hh => by
      obtain ⟨_, _, hn⟩ := chk_zero h
      unfold nmB at hn
      simp only [Bool.and_eq_true] at hn
      have := (num_lt L 0 hn.1 i hi (by rw [getD_at hi]; exact hh.2)).1
      rw [getD_at hi, hh.1] at this
      omega
    obtain ⟨_, ht, _⟩ := chk_zero h
    obtain ⟨f1, f2, _⟩ := treeB_facts ht
    have hs := tree_snd h 0 f1
    have hg0 := snd_root f2 hs
    rw [getD_at f1] at hg0
    have : p = 0 := by
      apply Nat.eq_zero_of_not_pos
      intro hpos
      exact hmin 0 f1 hpos hg0
    rw [hz, this]
set_option maxHeartbeats 4000000 in
set_option maxRecDepth 100000 in
theorem place19_any (L : List ND) (hL : L.length < 100000) (b off cap : Nat) (bb en : Bool) (g o : Int) (W : World) (hN : NdsIn W (some ⟨b, off, none⟩) L) (hb : b < W.heap.size) :
    Calls Tryz.prog 68 #[.agg #[.slice (some ⟨b, off, none⟩) L.length cap, .bool bb, .bool en, .int .i64 g], .int .i64 o] W fun e w' => e = .returned (.int .i64 (plcR L o : Int)) ∧ Below W.heap.size W w' := by
  obtain ⟨r, hr⟩ : ∃ r, plcR L o = r := ⟨_, rfl⟩
  have HRR := Lib.hid hr
  rw [hr]
  clear hr
  have t0 := CBlk.new 25 W [.slice (some ⟨b, off, none⟩) L.length cap, .bool bb, .bool en, .int .i64 g]
  have hB1 : Below W.heap.size W (W.alloc (.cells #[.slice (some ⟨b, off, none⟩) L.length cap, .bool bb, .bool en, .int .i64 g] 25)) := (Below.refl _ W).alloc (Nat.le_refl _) _
  have HN := Lib.hid (CellsIn.below hN hB1 (Nat.le_refl _) : NdsIn _ (some ⟨b, off, none⟩) L)
  have HB1 := Lib.hid hB1
  go_enter Tryz.func68, Tryz.ntmps68
  go_wp2_with fail
  generalize hX : W.alloc (.cells #[.slice (some ⟨b, off, none⟩) L.length cap, .bool bb, .bool en, .int .i64 g] 25) = X at t0 HN HB1 ⊢
  have hbX : b < X.heap.size := Nat.lt_of_lt_of_le hb HB1.out.size
  have c0 := t0.cell 0 (by simp)
  clear hX hN hB1 t0
  go_loopw [5] (fun i wr => ∃ j : Nat, j ≤ L.length ∧ i = .int .i64 j ∧ Hid (∀ i (hi : i < L.length), i < j → ¬(L[i].group = o ∧ L[i].kind = 4)) ∧ wr = X) (fun i _ => L.length - (intOf i).toNat)
  case atStart => exact ⟨0, Nat.zero_le _, rfl, Lib.hid (fun i hi h => absurd h (by omega)), rfl⟩
  case round =>
    obtain ⟨j, hj, rfl, hno, rfl⟩ := hrel
    by_cases hjl : j < L.length
    · have b1 : (j : Int) < (L.length : Int) := by omega
      have b2 : decide ((j : Int) < (L.length : Int)) = true := decide_eq_true b1
      have wj : IntKind.i64.wrap ((j : Int) + 1) = (j : Int) + 1 := jwrap (by omega) (by omega)
      obtain ⟨m0, _, _, _, _, _, m6, _, _⟩ := ndV_cells HN.out hjl
      obtain ⟨n, hn⟩ : ∃ n, L[j] = n := ⟨_, rfl⟩
      rw [hn] at m0 m6
      have HNK := Lib.hid hn
      clear hn
      by_cases h1 : n.group = o
      · have e1 : (n.group == o) = true := by simpa using h1
        by_cases h2 : n.kind = 4
        · have e2 : (n.kind == 4) = true := by simpa using h2
          have hres : r = j := by
            rw [← HRR.out]
            exact plcR_at hjl (by rw [HNK.out]; exact h1) (by rw [HNK.out]; exact h2) hno.out
          have HRS := Lib.hid hres
          clear h1 h2 hres hno
          go_wp2_with fail
          go_ret
          exact ⟨by rw [HRS.out]; rfl, HB1.out⟩
        · have e2 : (n.kind == 4) = false := by simpa using h2
          have hno2 : Hid (∀ i (hi : i < L.length), i < j + 1 → ¬(L[i].group = o ∧ L[i].kind = 4)) := Lib.hid fun i hi hij => by
            by_cases e : i = j
            · subst e
              rw [HNK.out]
              exact fun h => h2 h.2
            · exact hno.out i hi (by omega)
          clear h1 h2 hno
          go_wp2_with fail
          go_roundw
          case rel => exact ⟨j + 1, by omega, by go_num, hno2, trivial⟩
          case measure => simp [intOf]; omega
      · have e1 : (n.group == o) = false := by simpa using h1
        have hno2 : Hid (∀ i (hi : i < L.length), i < j + 1 → ¬(L[i].group = o ∧ L[i].kind = 4)) := Lib.hid fun i hi hij => by
          by_cases e : i = j
          · subst e
            rw [HNK.out]
            exact fun h => h1 h.1
          · exact hno.out i hi (by omega)
        clear h1 hno
        go_wp2_with fail
        go_roundw
        case rel => exact ⟨j + 1, by omega, by go_num, hno2, trivial⟩
        case measure => simp [intOf]; omega
    · obtain rfl : j = L.length := by omega
      have b2 : decide ((L.length : Int) < (L.length : Int)) = false := decide_eq_false (by omega)
      have hres : r = 0 := by
        rw [← HRR.out]
        exact plcR_none fun i hi => hno.out i hi hi
      have HRS := Lib.hid hres
      clear hres hno
      go_wp2_with fail
      go_ret
      exact ⟨by rw [HRS.out]; rfl, HB1.out⟩
set_option maxHeartbeats 4000000 in
set_option maxRecDepth 100000 in
theorem last19_any (L : List ND) (hL : L.length < 100000) (b off cap : Nat) (bb en : Bool) (g : Int) : ∀ (m f i e : Nat) (W : World), e - i ≤ m → beh L f i = some e → NdsIn W (some ⟨b, off, none⟩) L → b < W.heap.size →
    Calls Tryz.prog 69 #[.agg #[.slice (some ⟨b, off, none⟩) L.length cap, .bool bb, .bool en, .int .i64 g], .int .i64 (i : Int)] W fun en w' => en = .returned (.int .i64 ((e - 1 : Nat) : Int)) ∧ Below W.heap.size W w'
  | 0, f, i, e, W, hm, h, _, _ => by
    have := (beh_open h).2.2.1
    omega
  | m + 1, f, i, e, W, hm, h, hN, hb => by
    obtain ⟨hil, hkl, hie, heL⟩ := beh_open h
    have HI := Lib.hid fun f i e W h1 h2 h3 h4 => last19_any L hL b off cap bb en g m f i e W h1 h2 h3 h4
    have t0 := CBlk.new 25 W [.slice (some ⟨b, off, none⟩) L.length cap, .bool bb, .bool en, .int .i64 g]
    have hB1 : Below W.heap.size W (W.alloc (.cells #[.slice (some ⟨b, off, none⟩) L.length cap, .bool bb, .bool en, .int .i64 g] 25)) := (Below.refl _ W).alloc (Nat.le_refl _) _
    have hN1 : NdsIn _ (some ⟨b, off, none⟩) L := CellsIn.below hN hB1 (Nat.le_refl _)
    have m7 := (ndV_cells hN1 hil).2.2.2.2.2.2.2.1
    rw [getD_at hil] at hkl
    obtain ⟨kd, hkd⟩ : ∃ k, L[i].kind = k := ⟨_, rfl⟩
    obtain ⟨x0, hx0⟩ : ∃ x, L[i].first = x := ⟨_, rfl⟩
    rw [hkd, hx0] at hkl
    rw [hx0] at m7
    have HN := Lib.hid hN1
    have HB1 := Lib.hid hB1
    have HT0 := Lib.hid t0
    have HKL := Lib.hid hkl
    have hiI : (i : Int) < (L.length : Int) := by omega
    have c0 := t0.cell 0 (by simp)
    have hl0 := t0.lt
    clear hN hB1 hN1 t0 hkl hkd hx0 h
    go_enter Tryz.func69, Tryz.ntmps69
    go_wp2_with fail
    generalize hX : W.alloc (.cells #[.slice (some ⟨b, off, none⟩) L.length cap, .bool bb, .bool en, .int .i64 g] 25) = X at HN HB1 HT0 hl0 ⊢
    have hbX : b < X.heap.size := Nat.lt_of_lt_of_le hb HB1.out.size
    clear hX m7 c0
    go_loopw [5, 6] (fun ov xv wr => ∃ (nx f : Nat) (x : Int), ov = .int .i64 ((nx - 1 : Nat) : Int) ∧ xv = .int .i64 x ∧ i + 1 ≤ nx ∧ nx ≤ e ∧ Hid (kl L f kd nx x = some e) ∧ Hid (Below X.heap.size X wr)) (fun ov _ _ => e - (intOf ov).toNat)
    case atStart => exact ⟨i + 1, f, x0, rfl, rfl, by omega, by omega, HKL, Lib.hid (Below.refl _ _)⟩
    case round =>
      obtain ⟨nx, f2, x, rfl, rfl, hn1, hn2, hk, hbl⟩ := hrel
      have t1 := HT0.out.below hbl.out hl0
      have c0 := t1.cell 0 (by simp)
      have c1 := t1.cell 1 (by simp)
      have c2 := t1.cell 2 (by simp)
      have c3 := t1.cell 3 (by simp)
      by_cases hx : x = -1
      · subst hx
        have he : e = nx := by
          have := hk.out
          rw [kl_nil] at this
          injection this with this
          exact this.symm
        subst he
        have hBW := HB1.out.trans (hbl.out.mono HB1.out.size)
        go_wp2_with fail
        go_ret
        exact ⟨rfl, hBW⟩
      · have e1 : (x != -1) = true := by simpa using hx
        obtain ⟨f', _, rfl, hlt, k2, hbk, h4⟩ := kl_open hk.out hx
        have hbo := beh_open hbk
        have hge := kl_ge L _ _ _ _ _ h4
        rw [getD_at hlt] at h4
        have HC := Lib.hid (HI.out f' nx k2 wr (by omega) hbk (CellsIn.below HN.out hbl.out (Nat.le_refl _)) (Nat.lt_of_lt_of_le hbX hbl.out.size))
        have hnI : (nx : Int) < (L.length : Int) := by omega
        obtain ⟨y, hy⟩ : ∃ y, L[nx].next = y := ⟨_, rfl⟩
        rw [hy] at h4
        have H4 := Lib.hid h4
        have HY := Lib.hid hy
        have hk2 : nx < k2 := hbo.2.2.1
        have hk3 : k2 ≤ e := hge.1
        clear hk hbk h4 hbo hge hx hy
        go_wp2_with fail
        refine HC.out.mono ?_
        rintro q w5 ⟨rfl, hb5⟩
        have hb6 := hbl.out.trans (hb5.mono hbl.out.size)
        have t5 := HT0.out.below hb6 hl0
        have m8 := (ndV_cells (CellsIn.below HN.out hb6 (Nat.le_refl _) : NdsIn w5 (some ⟨b, off, none⟩) L) hlt).2.2.2.2.2.2.2.2
        rw [HY.out] at m8
        clear c0 c1 c2 c3 t1
        have c0 := t5.cell 0 (by simp)
        have HB6 := Lib.hid hb6
        clear hb5 hb6 t5 HC hbl
        go_wp2_with fail
        go_roundw
        case rel => exact ⟨k2, f', y, rfl, rfl, by omega, by omega, H4, HB6⟩
        case measure =>
          simp [intOf]
          omega
end Go.Proofs.YtdnbnigebejgjaaGreatDoor
namespace Go.Proofs.YtdnbnigebejgjaaGreatDoor
open Go.RowKit Go.Shelf
theorem hdB_grp {L : List ND} {o i : Int} {p k q m : Nat} (h1 : GrpAt L o p k) (h2 : GrpAt L i q m) : hdB L o i = decide (p ≤ q ∧ q < k) := by
  unfold hdB
  rw [h1.pl, h2.pl]
  dsimp only
  rw [h1.be]
  have : ((p : Int) ≤ optI (some q) ∧ optI (some q) < (k : Int)) ↔ (p ≤ q ∧ q < k) := by
    show ((p : Int) ≤ (q : Int) ∧ (q : Int) < (k : Int)) ↔ _
    omega
  exact decide_eq_decide.2 this
theorem grp_root {L : List ND} {g : Int} (h : chkR L g = 0) {p k : Nat} (hg : GrpAt L 0 p k) : p = 0 := by
  have h1 := plcR_grp h (Int.le_refl 0) hg
  have hz : plcR L 0 = 0 := plcR_none fun i hi hh => by
    obtain ⟨_, _, hn⟩ := chk_zero h
    unfold nmB at hn
    simp only [Bool.and_eq_true] at hn
    have := (num_lt L 0 hn.1 i hi (by rw [getD_at hi]; exact hh.2)).1
    rw [getD_at hi, hh.1] at this
    omega
  omega
theorem grp_pos {L : List ND} {g o : Int} (h : chkR L g = 0) (ho : 1 ≤ o) {p k : Nat} (hg : GrpAt L o p k) : 0 < p := by
  apply Nat.pos_of_ne_zero
  rintro rfl
  have hk := hg.kd ho
  obtain ⟨_, ht, _⟩ := chk_zero h
  obtain ⟨f1, f2, _⟩ := treeB_facts ht
  rw [f2] at hk
  omega
theorem held_tree {N : Nat} {W wx : World} {B t : Nat} {x0 x1 x2 x3 : Value} (hN : W.heap.size = N) (hB : CBlk t W B [x0, x1, x2, x3]) (hb : Below N W wx) :
    Below N W wx ∧ wx.cell? ⟨B, 0, none⟩ = some x0 ∧ wx.cell? ⟨B, 1, none⟩ = some x1 ∧ wx.cell? ⟨B, 2, none⟩ = some x2 ∧ wx.cell? ⟨B, 3, none⟩ = some x3 := by
  have s := hB.below hb (hN ▸ hB.lt)
  exact ⟨hb, s.cell 0 (by simp), s.cell 1 (by simp), s.cell 2 (by simp), s.cell 3 (by simp)⟩
set_option maxHeartbeats 4000000 in
set_option maxRecDepth 100000 in
theorem lies_any (L : List ND) (hL : L.length < 100000) (b off cap : Nat) (bb en : Bool) (g o i : Int) (hck : chkR L g = 0) (ho1 : 0 ≤ o) (ho2 : o ≤ g) (hi1 : 0 ≤ i) (hi2 : i ≤ g) (W : World) (hN : NdsIn W (some ⟨b, off, none⟩) L) (hb : b < W.heap.size) :
    Calls Tryz.prog 49 #[.agg #[.slice (some ⟨b, off, none⟩) L.length cap, .bool bb, .bool en, .int .i64 g], .int .i64 o, .int .i64 i] W fun e w' => e = .returned (.bool (hdB L o i)) ∧ Below W.heap.size W w' := by
  obtain ⟨p, k, hp⟩ := grp_at hck ho1 ho2
  obtain ⟨q, m, hq⟩ := grp_at hck hi1 hi2
  have e0 : q ≠ 0 ∨ p = 0 ∨ ¬ p ≤ q := by omega
  have HR := Lib.hid (hdB_grp hp hq)
  have hpi : i = 0 → q = 0 := fun e => by subst e; exact grp_root hck hq
  have hpo : o ≠ 0 → 0 < p := fun e => grp_pos hck (by omega) hp
  have HZ : Hid (p ≤ q → (¬ 0 < i) → o = 0) := Lib.hid fun h1 h2 => Classical.byContradiction fun h3 => by
    have := hpi (by omega)
    have := hpo h3
    omega
  have hPO := fun w h1 h2 => place19_any L hL b off cap bb en g o w h1 h2
  have hPI := fun w h1 h2 => place19_any L hL b off cap bb en g i w h1 h2
  rw [plcR_grp hck ho1 hp] at hPO
  rw [plcR_grp hck hi1 hq] at hPI
  have hLA := fun w h1 h2 => last19_any L hL b off cap bb en g (k - p) L.length p k w (Nat.le_refl _) hp.be h1 h2
  have hpk : p < k := hp.lt
  obtain ⟨l, hl⟩ : ∃ l, k - 1 = l := ⟨_, rfl⟩
  rw [hl] at hLA
  have HPO := Lib.hid hPO
  have HPI := Lib.hid hPI
  have HLA := Lib.hid hLA
  have HKL : Hid (q < k ↔ q ≤ l) := Lib.hid (by omega)
  have hB1 : Below W.heap.size W (W.alloc (.cells #[.slice (some ⟨b, off, none⟩) L.length cap, .bool bb, .bool en, .int .i64 g] 25)) := (Below.refl _ W).alloc (Nat.le_refl _) _
  have s1 : CBlk 25 (W.alloc (.cells #[.slice (some ⟨b, off, none⟩) L.length cap, .bool bb, .bool en, .int .i64 g] 25)) W.heap.size [.slice (some ⟨b, off, none⟩) L.length cap, .bool bb, .bool en, .int .i64 g] := CBlk.new _ W _
  have HN := Lib.hid hN
  have HB := Lib.hid hb
  clear hPO hPI hLA hl hpk hpi hpo e0 hp hq hck ho1 ho2 hi1 hi2 hN hb
  go_enter Tryz.func49, Tryz.ntmps49
  go_upto_region 1 with fail
  generalize hW0 : W.alloc (.cells #[.slice (some ⟨b, off, none⟩) L.length cap, .bool bb, .bool en, .int .i64 g] 25) = W0 at s1 hB1 ⊢
  clear hW0
  obtain ⟨N, hNz⟩ : ∃ N, W0.heap.size = N := ⟨_, rfl⟩
  have hN := Lib.hid hNz
  have s := Lib.hid s1
  have hNd : Hid (∀ wx, Below N W0 wx → NdsIn wx (some ⟨b, off, none⟩) L ∧ b < wx.heap.size) := Lib.hid fun wx hb => by
    have h2 := hB1.trans (hb.mono (hNz ▸ hB1.size))
    exact ⟨CellsIn.below HN.out h2 (Nat.le_refl _), Nat.lt_of_lt_of_le HB.out h2.size⟩
  have HO := Lib.hid fun wx hb => HPO.out wx (hNd.out wx hb).1 (hNd.out wx hb).2
  have HI := Lib.hid fun wx hb => HPI.out wx (hNd.out wx hb).1 (hNd.out wx hb).2
  clear hNz s1 HPO HPI
  go_region_held3 (fun wx => Below N W0 wx ∧ wx.cell? ⟨W.heap.size, 0, none⟩ = some (.slice (some ⟨b, off, none⟩) L.length cap) ∧ wx.cell? ⟨W.heap.size, 1, none⟩ = some (.bool bb) ∧ wx.cell? ⟨W.heap.size, 2, none⟩ = some (.bool en) ∧ wx.cell? ⟨W.heap.size, 3, none⟩ = some (.int .i64 g))
    ((go_split_ands; refine held_tree hN.out s.out ?_; have hN := hN.out; repeat' (first | (with_reducible assumption) | (with_reducible exact Below.refl _ _) | (with_reducible refine Below.drew ?_) | (refine Below.transS (wx := ?_) hN ?_ ?_; rotate_left 2; assumption))))
    (first | (go_at_call 68; (first | (with_reducible refine (HO.out _ ?_).mono ?_) | (with_reducible refine (HI.out _ ?_).mono ?_)); (focus (have hN := hN.out; repeat' (first | (with_reducible assumption) | (with_reducible exact Below.refl _ _) | (with_reducible refine Below.drew ?_) | (refine Below.transS (wx := ?_) hN ?_ ?_; rotate_left 2; assumption)))); rintro e w' ⟨rfl, hb⟩))
  rename_i hHeld
  obtain ⟨hb9, c0, c1, c2, c3⟩ := hHeld
  have hB : Below W.heap.size W w' := hB1.trans (hb9.mono (hN.out ▸ hB1.size))
  clear HO HI hNd hb9 hB1
  by_cases hpq : p ≤ q
  · have b1 : decide ((p : Int) ≤ (q : Int)) = true := decide_eq_true (by omega)
    go_wp2_with fail
    refine (HLA.out _ (CellsIn.below HN.out hB (Nat.le_refl _)) (Nat.lt_of_lt_of_le HB.out hB.size)).mono ?_
    rintro e w1 ⟨rfl, hb1⟩
    have hB2 := hB.trans (hb1.mono hB.size)
    clear c0 c1 c2 c3 b1
    by_cases hql : q ≤ l
    · have b2 : decide ((q : Int) ≤ (l : Int)) = true := decide_eq_true (by omega)
      have hres : hdB L o i = true := by rw [HR.out]; exact decide_eq_true ⟨hpq, HKL.out.2 hql⟩
      have HRES := Lib.hid hres
      by_cases h0 : 0 < i
      · have b3 : decide (0 < i) = true := decide_eq_true h0
        have HB2 := Lib.hid hB2
        clear hres hB hB2
        go_wp2_with fail
        go_ret
        exact ⟨by rw [HRES.out]; rfl, HB2.out⟩
      · have b3 : decide (0 < i) = false := decide_eq_false h0
        have b4 : o = 0 := HZ.out hpq (by omega)
        subst b4
        have HB2 := Lib.hid hB2
        clear hres hB hB2
        go_wp2_with fail
        go_ret
        exact ⟨by rw [HRES.out]; rfl, HB2.out⟩
    · have b2 : decide ((q : Int) ≤ (l : Int)) = false := decide_eq_false (by omega)
      have hres : hdB L o i = false := by rw [HR.out]; exact decide_eq_false fun h => hql (HKL.out.1 h.2)
      have HRES := Lib.hid hres
      have HB2 := Lib.hid hB2
      clear hres hB hB2
      go_wp2_with fail
      go_ret
      exact ⟨by rw [HRES.out]; rfl, HB2.out⟩
  · have b1 : decide ((p : Int) ≤ (q : Int)) = false := decide_eq_false (by omega)
    have hres : hdB L o i = false := by rw [HR.out]; exact decide_eq_false fun h => hpq h.1
    have HRES := Lib.hid hres
    have HB2 := Lib.hid hB
    clear hres hB
    go_wp2_with fail
    go_ret
    exact ⟨by rw [HRES.out]; rfl, HB2.out⟩
end Go.Proofs.YtdnbnigebejgjaaGreatDoor
namespace Go.Proofs.YtdnbnigebejgjaaGreatDoor
open Go.RowKit Go.Shelf
theorem tree_open {L : List ND} {g : Int} {v : Value} {W : World} (hck : chkR L g = 0) (h : NdsAt W v L) : ∃ b off cap, v = .slice (some ⟨b, off, none⟩) L.length cap ∧ b < W.heap.size ∧ NdsIn W (some ⟨b, off, none⟩) L := by
  obtain ⟨p, cap, rfl, hcap, hN⟩ := h
  obtain ⟨hl, ht, hn⟩ := chk_zero hck
  obtain ⟨f1, f2, f3⟩ := treeB_facts ht
  obtain ⟨b, off, rfl, hb⟩ := nds_place hN f1
  exact ⟨b, off, cap, rfl, hb, hN⟩
set_option maxHeartbeats 4000000 in
theorem inside19_any (L : List ND) (hL : L.length < 1000000000) (v : Value) (bb en : Bool) (g o i : Int) (W : World) (h : NdsAt W v L) :
    Calls Tryz.prog 22 #[.agg #[v, .bool bb, .bool en, .int .i64 g], .int .i64 o, .int .i64 i] W fun e w' => e = .returned (.tuple #[.bool (insR L g o i).1, .int .i64 (insR L g o i).2]) ∧ Below W.heap.size W w' := by
  obtain ⟨W1, hW1⟩ : ∃ W1, W.alloc (.cells #[v, .bool bb, .bool en, .int .i64 g] 25) = W1 := ⟨_, rfl⟩
  have hB1 : Below W.heap.size W W1 := by rw [← hW1]; exact (Below.refl _ W).alloc (Nat.le_refl _) _
  have s1 : CBlk 25 W1 W.heap.size [v, .bool bb, .bool en, .int .i64 g] := by rw [← hW1]; exact CBlk.new _ W _
  have hz1 : W1.heap.size = W.heap.size + 1 := by rw [← hW1]; simp
  have HC := Lib.hid (refCheck_any L hL v bb en g W1 (h.below hB1 (Nat.le_refl _)))
  obtain ⟨t0, t1, t2, t3⟩ : W1.cell? ⟨W.heap.size, 0, none⟩ = _ ∧ W1.cell? ⟨W.heap.size, 1, none⟩ = _ ∧ W1.cell? ⟨W.heap.size, 2, none⟩ = _ ∧ W1.cell? ⟨W.heap.size, 3, none⟩ = _ := ⟨s1.cell 0 (by simp), s1.cell 1 (by simp), s1.cell 2 (by simp), s1.cell 3 (by simp)⟩
  obtain ⟨c, hc⟩ : ∃ c, chkR L g = c := ⟨_, rfl⟩
  rw [hc] at HC
  by_cases h0 : c = 0
  · subst h0
    have HA := Lib.hid h
    have HCK := Lib.hid hc
    have HR : Hid (insR L g o i = if (0 ≤ o ∧ o ≤ g) ∧ (0 ≤ i ∧ i ≤ g) ∧ i ≠ 0 then (hdB L o i, 0) else (false, 2)) := Lib.hid (by
      unfold insR
      rw [if_pos hc])
    clear h hc
    go_enter Tryz.func22, Tryz.ntmps22
    go_wp2_with fail
    refine HC.out.mono ?_
    rintro e w2 ⟨rfl, hB2⟩
    have s2 := s1.below hB2 s1.lt
    obtain ⟨c0, c1, c2, c3⟩ : w2.cell? ⟨W.heap.size, 0, none⟩ = _ ∧ w2.cell? ⟨W.heap.size, 1, none⟩ = _ ∧ w2.cell? ⟨W.heap.size, 2, none⟩ = _ ∧ w2.cell? ⟨W.heap.size, 3, none⟩ = _ := ⟨s2.cell 0 (by simp), s2.cell 1 (by simp), s2.cell 2 (by simp), s2.cell 3 (by simp)⟩
    have hBW := hB1.trans (hB2.mono (by omega))
    clear s1 s2 hB1 hB2 t0 t1 t2 t3 HC
    have HBW := Lib.hid hBW
    by_cases a1 : o < 0
    · have b1 : decide (o < 0) = true := decide_eq_true a1
      have HR2 : Hid (insR L g o i = (false, 2)) := Lib.hid (by rw [HR.out, if_neg (by omega)])
      clear HR a1 hBW hz1
      go_wp2
      go_ret2
      exact ⟨by rw [HR2.out]; rfl, HBW.out⟩
    · have b1 : decide (o < 0) = false := decide_eq_false a1
      by_cases a2 : g < o
      · have b2 : decide (g < o) = true := decide_eq_true a2
        have HR2 : Hid (insR L g o i = (false, 2)) := Lib.hid (by rw [HR.out, if_neg (by omega)])
        clear HR a1 a2 hBW hz1
        go_wp2
        go_ret2
        exact ⟨by rw [HR2.out]; rfl, HBW.out⟩
      · have b2 : decide (g < o) = false := decide_eq_false a2
        by_cases a3 : i < 1
        · have b3 : decide (i < 1) = true := decide_eq_true a3
          have HR2 : Hid (insR L g o i = (false, 2)) := Lib.hid (by rw [HR.out, if_neg (by omega)])
          clear HR a1 a2 a3 hBW hz1
          go_wp2
          go_ret2
          exact ⟨by rw [HR2.out]; rfl, HBW.out⟩
        · have b3 : decide (i < 1) = false := decide_eq_false a3
          by_cases a4 : g < i
          · have b4 : decide (g < i) = true := decide_eq_true a4
            have HR2 : Hid (insR L g o i = (false, 2)) := Lib.hid (by rw [HR.out, if_neg (by omega)])
            clear HR a1 a2 a3 a4 hBW hz1
            go_wp2
            go_ret2
            exact ⟨by rw [HR2.out]; rfl, HBW.out⟩
          · have b4 : decide (g < i) = false := decide_eq_false a4
            have HR2 : Hid (insR L g o i = (hdB L o i, 0)) := Lib.hid (by rw [HR.out, if_pos (by omega)])
            obtain ⟨b, off, cap, rfl, hb, hN⟩ := tree_open HCK.out HA.out
            have HL := Lib.hid (lies_any L (by have := (chk_zero HCK.out).1; omega) b off cap bb en g o i HCK.out (by omega) (by omega) (by omega) (by omega) w2 (CellsIn.below hN hBW (Nat.le_refl _)) (Nat.lt_of_lt_of_le hb hBW.size))
            clear HR a1 a2 a3 a4 hBW hz1 hb hN HA
            go_wp2_with fail
            refine HL.out.mono ?_
            rintro e w3 ⟨rfl, hB3⟩
            have HBX := Lib.hid (HBW.out.trans (hB3.mono HBW.out.size))
            clear HBW hB3 HL
            go_wp2
            go_ret2
            exact ⟨by rw [HR2.out]; rfl, HBX.out⟩
  · have HR : Hid (insR L g o i = (false, c)) := Lib.hid (by unfold insR; rw [hc, if_neg h0])
    have a1 : (c == 0) = false := by simpa using h0
    have a2 : (c != 0) = true := by simpa using h0
    clear h0 hc
    go_enter Tryz.func22, Tryz.ntmps22
    go_wp2_with fail
    refine HC.out.mono ?_
    rintro e w2 ⟨rfl, hB2⟩
    go_wp2
    go_ret2
    exact ⟨by rw [HR.out]; rfl, hB1.trans (hB2.mono (by omega))⟩
end Go.Proofs.YtdnbnigebejgjaaGreatDoor
