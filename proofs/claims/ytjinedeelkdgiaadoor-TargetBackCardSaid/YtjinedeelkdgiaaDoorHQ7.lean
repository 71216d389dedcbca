/-
  The program's Why, Split and canonical targets. The texts are shorter than 30000 bytes.
  The program's Same. The targets are shorter than 30000 bytes.
-/
import Derived.Test.YtjinedeelkdgiaaDoorHQ5
namespace Go.Proofs.YtjinedeelkdgiaaDoor
open Go.RowKit
set_option maxHeartbeats 4000000 in
theorem why_any (s : List UInt8) (hl : s.length < 30000) (n : Int) (w : World) (hV : VT w) :
    Calls Tryd.prog 13 #[.string ⟨s.toArray⟩, .int .i64 n] w fun e w' => e = .returned (whyW (rdP (rdR s n))) ∧ Below w.heap.size w w' := by
  have HD := Lib.hid fun W h => read_any s hl n W h
  obtain ⟨⟨p, q, e, st⟩, hx⟩ : ∃ x, rdP (rdR s n) = x := ⟨_, rfl⟩
  rw [hx] at HD ⊢
  clear hx
  unfold rd4A at HD
  dsimp only at HD
  go_enter Tryd.func13, Tryd.ntmps13
  go_wp2_with fail
  refine (HD.out _ hV).mono ?_
  rintro e w1 ⟨rfl, hb1⟩
  have b1 := CBlk.new 57 w1 [.string ⟨p.toArray⟩, .string ⟨q.toArray⟩, .int .i64 e, .int .i64 st]
  have hB := hb1.alloc hb1.size (.cells #[.string ⟨p.toArray⟩, .string ⟨q.toArray⟩, .int .i64 e, .int .i64 st] 57)
  go_upto_region 2 with fail
  obtain ⟨V, hVe⟩ : ∃ V, w1.alloc (.cells #[.string ⟨p.toArray⟩, .string ⟨q.toArray⟩, .int .i64 e, .int .i64 st] 57) = V := ⟨_, rfl⟩
  have b1 : CBlk 57 V w1.heap.size [.string ⟨p.toArray⟩, .string ⟨q.toArray⟩, .int .i64 e, .int .i64 st] := by rw [← hVe]; exact b1
  rw [hVe] at hB ⊢
  clear hVe
  obtain ⟨r0, r1, r2, r3⟩ := rcells4 b1
  go_region
  all_goals
    go_wp2_with fail
    go_ret2
    exact ⟨rfl, hB.drew⟩
def ssS (t : List UInt8) (k : Nat) : PQ → Nat × PQ := ssR t 0 (k + 1)
theorem thr_split (t : List UInt8) : ∃ st : Nat, resW (thrR (ssS t) 2 0 ([], [])) = rd4A ((splP (splR t)).1, (splP (splR t)).2.1, (splP (splR t)).2.2, st) := by
  unfold splR
  by_cases h2 : 1024 < t.length
  · have e : ssS t 0 ([], []) = (2, ([], [])) := by show s1 t _ = _; unfold s1; rw [if_pos h2]
    rw [if_pos h2, thr_no e (by decide)]; exact ⟨414, rfl⟩
  have e1 : ssS t 0 ([], []) = (0, ([], [])) := by show s1 t _ = _; unfold s1; rw [if_neg h2]
  rw [if_neg h2, thr_go e1]
  cases h3 : tgtB t
  · have e : ssS t 1 ([], []) = (3, ([], [])) := by show s2 t _ = _; unfold s2; rw [h3]; rfl
    rw [thr_no e (by decide)]; exact ⟨400, rfl⟩
  have e2 : ssS t 1 ([], []) = (0, (rawL t, qL t)) := by show s2 t _ = _; unfold s2; rw [h3]; rfl
  rw [if_pos rfl, thr_go e2]
  exact ⟨200, rfl⟩
theorem fn_cells2 (W : World) (B : Nat) (fr : Nat × Nat) (hk : W.heap[B]? = some (.cells #[.func (.func 30) #[] #[], .func (.func 31) #[] #[]] 61 fr)) (k : Nat) (hk6 : k < 2) : W.cell? ⟨B, k, none⟩ = some (.func (.func (fsR (k + 1))) #[] #[]) := by
  rw [cell_of_row _ _ _ _ _ _ hk]
  match k, hk6 with
  | 0, _ => rfl
  | 1, _ => rfl
set_option maxRecDepth 100000 in
set_option maxHeartbeats 4000000 in
theorem split_any (s : List UInt8) (hl : s.length < 30000) (w : World) (hV : VT w) :
    Calls Tryd.prog 9 #[.string ⟨s.toArray⟩] w fun e w' => e = .returned (splW (splP (splR s))) ∧ Below w.heap.size w w' := by
  obtain ⟨st, hst⟩ := thr_split s
  have HT : Hid (∀ (W : World) (B : Nat) (fr : Nat × Nat), VT W → W.heap[B]? = some (.cells #[.func (.func 30) #[] #[], .func (.func 31) #[] #[]] 61 fr) → Calls Tryd.prog 29 #[.agg #[.string ⟨#[]⟩, .string ⟨#[]⟩, .string ⟨s.toArray⟩, .int .i64 0], .slice (some ⟨B, 0, none⟩) 2 2] W fun e w' => e = .returned (rd4A ((splP (splR s)).1, (splP (splR s)).2.1, (splP (splR s)).2.2, st)) ∧ Below W.heap.size W w') := Lib.hid fun W B fr hV hk => by
    have h := through_any s 0 2 (by omega) (fun k => fsR (k + 1)) (ssS s) (fun k => lenI s (k + 1)) (fun k _ p q hI W B h hV => fs_calls s hl 0 (k + 1) p q hI W B h hV) (fun k _ x h => len_step s 0 (k + 1) x h) (fun k _ => fs_enters (k + 1)) [] [] ⟨by simp, by simp⟩ W hV B (lt_of_block hk) (fun k hk6 => fn_cells2 W B fr hk k hk6)
    rw [hst] at h
    exact h
  clear hst
  obtain ⟨⟨p, q, e⟩, hR⟩ : ∃ R, splP (splR s) = R := ⟨_, rfl⟩
  rw [hR] at HT ⊢
  clear hR
  unfold rd4A at HT
  dsimp only at HT
  go_enter Tryd.func9, Tryd.ntmps9
  go_wp2_with fail
  refine (HT.out _ _ _ (hV.below (below_new w _)) (heap_alloc_new w _)).mono ?_
  rintro e w1 ⟨rfl, hb1⟩
  have hb1 : Below w.heap.size w w1 := (below_new w _).trans (hb1.mono (by simp))
  have b1 := CBlk.new 57 w1 [.string ⟨p.toArray⟩, .string ⟨q.toArray⟩, .int .i64 e, .int .i64 st]
  have hB := hb1.alloc hb1.size (.cells #[.string ⟨p.toArray⟩, .string ⟨q.toArray⟩, .int .i64 e, .int .i64 st] 57)
  go_upto_region 2 with fail
  obtain ⟨V, hVe⟩ : ∃ V, w1.alloc (.cells #[.string ⟨p.toArray⟩, .string ⟨q.toArray⟩, .int .i64 e, .int .i64 st] 57) = V := ⟨_, rfl⟩
  have b1 : CBlk 57 V w1.heap.size [.string ⟨p.toArray⟩, .string ⟨q.toArray⟩, .int .i64 e, .int .i64 st] := by rw [← hVe]; exact b1
  rw [hVe] at hB ⊢
  clear hVe
  obtain ⟨r0, r1, r2, r3⟩ := rcells4 b1
  go_region
  all_goals
    go_wp2_with fail
    go_ret3
    exact ⟨rfl, hB.drew⟩
set_option maxRecDepth 100000 in
set_option maxHeartbeats 4000000 in
theorem tcanon_any (p q : List UInt8) (hp : p.length < 100000) (hq : q.length < 100000) (w : World) :
    Calls Tryd.prog 38 #[.agg #[.string ⟨p.toArray⟩, .string ⟨q.toArray⟩]] w fun e w' => e = .returned (.string ⟨(canL p q).toArray⟩) ∧ Below w.heap.size w w' := by
  have hE := encL_length stay17 p
  obtain ⟨y0, y1, y2, y3, hy⟩ : ∃ y0 y1 y2 y3, Hid (stay17 = ⟨y0, y1, y2, y3⟩) := ⟨_, _, _, _, Lib.hid rfl⟩
  have HE : Hid (∀ W, Calls Tryd.prog 28 #[.string ⟨p.toArray⟩, .agg #[.int .u64 y0.toNat, .int .u64 y1.toNat, .int .u64 y2.toNat, .int .u64 y3.toNat]] W fun e w' => e = .returned (.string ⟨(encL stay17 p).toArray⟩) ∧ Below W.heap.size W w') := Lib.hid fun W => by
    have h := encode_any p (by omega) y0 y1 y2 y3 W
    rw [← hy.out] at h
    exact h
  have HS : Hid (∀ W, Calls Tryd.prog 69 #[] W fun e w' => e = .returned (WSet.mk y0 y1 y2 y3).v ∧ Below W.heap.size W w') := Lib.hid fun W => by
    have h := stay17_any W
    rw [hy.out] at h
    exact h
  obtain ⟨E, hEe⟩ : ∃ E, encL stay17 p = E := ⟨_, rfl⟩
  rw [hEe] at HE hE
  have HC : Hid (canL p q = E ++ (if q == [] then [] else 63 :: q)) := Lib.hid (by unfold canL; rw [hEe])
  obtain ⟨C, hCe⟩ : ∃ C, canL p q = C := ⟨_, rfl⟩
  rw [hCe] at HC ⊢
  clear hEe hy hCe
  have b0 := CBlk.new 53 w [.string ⟨p.toArray⟩, .string ⟨q.toArray⟩]
  have hB0 := below_new w (.cells #[.string ⟨p.toArray⟩, .string ⟨q.toArray⟩] 53)
  go_enter Tryd.func38, Tryd.ntmps38
  go_upto_region 1 with fail
  obtain ⟨V, hVe⟩ : ∃ V, w.alloc (.cells #[.string ⟨p.toArray⟩, .string ⟨q.toArray⟩] 53) = V := ⟨_, rfl⟩
  have b0 : CBlk 53 V w.heap.size [.string ⟨p.toArray⟩, .string ⟨q.toArray⟩] := by rw [← hVe]; exact b0
  rw [hVe] at hB0 ⊢
  clear hVe
  obtain ⟨c0, c1⟩ := vcells2 b0
  have l0 := b0.lt
  go_region_with (first
    | (go_at_call 69; refine (HS.out _).mono ?_; rintro e w5 ⟨rfl, hb5⟩; have b5 := b0.drew.below hb5 l0; have hB5 := hB0.drew.trans (hb5.mono (by have := hB0.size; simp; omega)); obtain ⟨c50, c51⟩ := vcells2 b5; have l5 := b5.lt)
    | (go_at_call 28; refine (HE.out _).mono ?_; rintro e w6 ⟨rfl, hb6⟩; have b6 := b5.below hb6 l5; have hB6 := hB5.trans (hb6.mono (by have := hB5.size; simp; omega)); obtain ⟨c60, c61⟩ := vcells2 b6; have l6 := b6.lt))
  all_goals
    clear b0 c0 c1 b5 c50 c51 hB5 hb5 hb6 HE HS
    by_cases hq0 : q = []
    · subst hq0
      have HC2 : Hid (C = E) := Lib.hid (by rw [HC.out]; simp)
      clear HC
      go_wp2_with fail
      go_ret
      exact ⟨by rw [HC2.out]; rfl, hB6⟩
    · have d2 : (q == []) = false := by simpa using hq0
      have d1 : (q != []) = true := by simpa using hq0
      have d3 : q.isEmpty = false := by simpa using hq0
      have HC2 : Hid (C = E ++ [63] ++ q) := Lib.hid (by rw [HC.out, d2]; simp)
      have x1 : ∀ W, (Op.stringOp .add ⟨E.toArray⟩ ⟨#[63]⟩).run Tryd.prog W = .ok (.string ⟨(E ++ [63]).toArray⟩) W := fun W => str_add E [63] (by unfold Small; simp; omega)
      have x2 : ∀ W, (Op.stringOp .add ⟨(E ++ [63]).toArray⟩ ⟨q.toArray⟩).run Tryd.prog W = .ok (.string ⟨(E ++ [63] ++ q).toArray⟩) W := fun W => str_add (E ++ [63]) q (by unfold Small; simp; omega)
      obtain ⟨E2, hE2⟩ : ∃ E2, E ++ [63] ++ q = E2 := ⟨_, rfl⟩
      rw [hE2] at x2 HC2
      obtain ⟨E1, hE1⟩ : ∃ E1, E ++ [63] = E1 := ⟨_, rfl⟩
      rw [hE1] at x1 x2
      clear hE1 hE2 HC hq0
      go_wp2_with fail
      go_ret
      exact ⟨by rw [HC2.out]; rfl, hB6⟩
/-- The canonical target as a result, or an error. -/
theorem txt_V (p q : List UInt8) : (∃ e : Nat, txtR p q = .inl e) ∨ txtR p q = .inr (canL p q) := by
  unfold txtR
  split
  · split
    · exact .inl ⟨_, rfl⟩
    · split
      · exact .inr rfl
      · exact .inl ⟨_, rfl⟩
  · exact .inl ⟨_, rfl⟩
set_option maxRecDepth 100000 in
set_option maxHeartbeats 4000000 in
theorem text_any (p q : List UInt8) (hp : p.length < 40000) (hq : q.length < 40000) (w : World) (hM : ML w) :
    Calls Tryd.prog 15 #[.string ⟨p.toArray⟩, .string ⟨q.toArray⟩] w fun e w' => e = .returned (strR (txtR p q)) ∧ Below w.heap.size w w' := by
  have HN := Lib.hid (normal_any p (by omega) w hM)
  have HQ := Lib.hid fun W => lquery_any q (by omega) W
  have HT := Lib.hid fun W => tcanon_any p q (by omega) (by omega) W
  obtain ⟨R, hR⟩ : ∃ R, txtR p q = R := ⟨_, rfl⟩
  rw [hR]
  unfold txtR at hR
  obtain ⟨C, hC⟩ : ∃ C, canL p q = C := ⟨_, rfl⟩
  rw [hC] at HT hR
  clear hC
  cases hn : normB p
  · rw [hn] at HN hR
    have HR : Hid (strR R = .tuple #[.string ⟨#[]⟩, .int .i64 18]) := Lib.hid (by rw [← hR]; rfl)
    rw [HR.out]
    clear hn hR
    go_enter Tryd.func15, Tryd.ntmps15
    go_wp2_with fail
    refine HN.out.mono ?_
    rintro e w1 ⟨rfl, hb1⟩
    go_wp2_with fail
    go_ret2
    exact ⟨rfl, hb1⟩
  · rw [hn] at HN hR
    rw [if_pos rfl] at hR
    obtain ⟨⟨f, e⟩, hx⟩ : ∃ x, qryR q = x := ⟨_, rfl⟩
    rw [hx] at hR HQ
    unfold qryW at HQ
    dsimp only at HQ hR
    by_cases he : e = 0
    · subst he
      rw [if_neg (by simp)] at hR
      cases f
      · have HR : Hid (strR R = .tuple #[.string ⟨#[]⟩, .int .i64 3]) := Lib.hid (by rw [← hR]; rfl)
        rw [HR.out]
        clear hn hR hx
        go_enter Tryd.func15, Tryd.ntmps15
        go_wp2_with fail
        refine HN.out.mono ?_
        rintro e w1 ⟨rfl, hb1⟩
        go_wp2_with fail
        refine (HQ.out _).mono ?_
        rintro e w2 ⟨rfl, hb2⟩
        go_wp2_with fail
        go_ret2
        exact ⟨rfl, hb1.trans (hb2.mono hb1.size)⟩
      · rw [if_pos rfl] at hR
        have HR : Hid (strR R = .tuple #[.string ⟨C.toArray⟩, .int .i64 0]) := Lib.hid (by rw [← hR]; rfl)
        rw [HR.out]
        clear hn hR hx HR
        go_enter Tryd.func15, Tryd.ntmps15
        go_wp2_with fail
        refine HN.out.mono ?_
        rintro e w1 ⟨rfl, hb1⟩
        go_wp2_with fail
        refine (HQ.out _).mono ?_
        rintro e w2 ⟨rfl, hb2⟩
        go_wp2_with fail
        refine (HT.out _).mono ?_
        rintro e w3 ⟨rfl, hb3⟩
        have hB := (hb1.trans (hb2.mono hb1.size)).trans (hb3.mono (Nat.le_trans hb1.size hb2.size))
        go_wp2_with fail
        go_ret2
        exact ⟨rfl, hB⟩
    · have e2 : ((e : Int) != 0) = true := by rw [bne_iff_ne]; omega
      have HR : Hid (strR R = .tuple #[.string ⟨#[]⟩, .int .i64 (e : Int)]) := Lib.hid (by rw [← hR, if_pos he]; rfl)
      rw [HR.out]
      clear hn hR hx he
      go_enter Tryd.func15, Tryd.ntmps15
      go_wp2_with fail
      refine HN.out.mono ?_
      rintro e w1 ⟨rfl, hb1⟩
      go_wp2_with fail
      refine (HQ.out _).mono ?_
      rintro e w2 ⟨rfl, hb2⟩
      go_wp2_with fail
      go_ret2
      exact ⟨rfl, hb1.trans (hb2.mono hb1.size)⟩
set_option maxRecDepth 100000 in
set_option maxHeartbeats 4000000 in
theorem canonical_any (s : List UInt8) (hl : s.length < 30000) (w : World) (hV : VT w) :
    Calls Tryd.prog 17 #[.string ⟨s.toArray⟩] w fun e w' => e = .returned (strR (canR s)) ∧ Below w.heap.size w w' := by
  have HD := Lib.hid (read_any s hl 128 w hV)
  unfold canR
  cases hr : rdR s 128 with
  | inl e =>
    have he := rd_err hr
    obtain ⟨e, st⟩ := e
    rw [hr] at HD
    have HV : Hid (rd4A (rdP (.inl (e, st))) = .agg #[.string ⟨#[]⟩, .string ⟨#[]⟩, .int .i64 (e : Int), .int .i64 (st : Int)]) := Lib.hid rfl
    rw [HV.out] at HD
    have e2 : ((e : Int) != 0) = true := by rw [bne_iff_ne]; dsimp only at he; omega
    clear he hr
    go_enter Tryd.func17, Tryd.ntmps17
    go_wp2_with fail
    refine HD.out.mono ?_
    rintro e1 w1 ⟨rfl, hb1⟩
    have b1 := CBlk.new 57 w1 [.string ⟨#[]⟩, .string ⟨#[]⟩, .int .i64 e, .int .i64 st]
    have hB := hb1.alloc hb1.size (.cells #[.string ⟨#[]⟩, .string ⟨#[]⟩, .int .i64 e, .int .i64 st] 57)
    go_upto_region 2 with fail
    obtain ⟨V, hVe⟩ : ∃ V, w1.alloc (.cells #[.string ⟨#[]⟩, .string ⟨#[]⟩, .int .i64 e, .int .i64 st] 57) = V := ⟨_, rfl⟩
    have b1 : CBlk 57 V w1.heap.size [.string ⟨#[]⟩, .string ⟨#[]⟩, .int .i64 e, .int .i64 st] := by rw [← hVe]; exact b1
    rw [hVe] at hB ⊢
    clear hVe
    obtain ⟨r0, r1, r2, r3⟩ := rcells4 b1
    go_wp2_with fail
    go_region
    all_goals
      go_wp2_with fail
      go_ret2
      exact ⟨rfl, hB.drew⟩
  | inr r =>
    obtain ⟨-, -, -, -, -, -, h6, h7⟩ := rd_good hr
    obtain ⟨p, q⟩ := r
    rw [hr] at HD
    have HV : Hid (rd4A (rdP (.inr (p, q))) = .agg #[.string ⟨p.toArray⟩, .string ⟨q.toArray⟩, .int .i64 0, .int .i64 200]) := Lib.hid rfl
    rw [HV.out] at HD
    dsimp only at h6 h7 ⊢
    have HT := Lib.hid fun W => tcanon_any p q (by omega) (by omega) W
    obtain ⟨C, hC⟩ : ∃ C, canL p q = C := ⟨_, rfl⟩
    rw [hC] at HT ⊢
    clear h6 h7 hr hC
    go_enter Tryd.func17, Tryd.ntmps17
    go_wp2_with fail
    refine HD.out.mono ?_
    rintro e1 w1 ⟨rfl, hb1⟩
    have b1 := CBlk.new 57 w1 [.string ⟨p.toArray⟩, .string ⟨q.toArray⟩, .int .i64 0, .int .i64 200]
    have hB := hb1.alloc hb1.size (.cells #[.string ⟨p.toArray⟩, .string ⟨q.toArray⟩, .int .i64 0, .int .i64 200] 57)
    go_upto_region 2 with fail
    obtain ⟨V, hVe⟩ : ∃ V, w1.alloc (.cells #[.string ⟨p.toArray⟩, .string ⟨q.toArray⟩, .int .i64 0, .int .i64 200] 57) = V := ⟨_, rfl⟩
    have b1 : CBlk 57 V w1.heap.size [.string ⟨p.toArray⟩, .string ⟨q.toArray⟩, .int .i64 0, .int .i64 200] := by rw [← hVe]; exact b1
    rw [hVe] at hB ⊢
    clear hVe
    obtain ⟨r0, r1, r2, r3⟩ := rcells4 b1
    go_wp2_with fail
    refine (HT.out _).mono ?_
    rintro e2 w2 ⟨rfl, hb2⟩
    go_wp2_with fail
    go_ret2
    exact ⟨rfl, hB.trans (hb2.mono hB.size)⟩
end Go.Proofs.YtjinedeelkdgiaaDoor
namespace Go.Proofs.YtjinedeelkdgiaaDoor
open Go.RowKit
theorem or2_at (x y : Int) (W : World) (B : Nat) (hB : W.heap.size = B) :
    Calls Tryd.prog 43 #[.slice (some ⟨B, 0, none⟩) 2 2] (W.alloc (.cells #[.int .i64 x, .int .i64 y] 23)) fun e w' => e = .returned (.int .i64 (if x = 0 then y else x)) ∧ w' = W.alloc (.cells #[.int .i64 x, .int .i64 y] 23) := by
  subst hB
  exact or2_any x y W
set_option maxRecDepth 100000 in
set_option maxHeartbeats 4000000 in
theorem same_any (s t : List UInt8) (hl : s.length < 30000) (hl2 : t.length < 30000) (w : World) (hV : VT w) :
    Calls Tryd.prog 19 #[.string ⟨s.toArray⟩, .string ⟨t.toArray⟩] w fun e w' => e = .returned (boolW (sameR s t)) ∧ Below w.heap.size w w' := by
  have HD := Lib.hid (read_any s hl 128 w hV)
  have HF := Lib.hid fun W h => read_any t hl2 128 W h
  obtain ⟨R, hR⟩ : ∃ R, sameR s t = R := ⟨_, rfl⟩
  rw [hR]
  unfold sameR at hR
  obtain ⟨⟨p, q, e, st⟩, hx⟩ : ∃ x, rdP (rdR s 128) = x := ⟨_, rfl⟩
  obtain ⟨⟨u, v, f, su⟩, hy⟩ : ∃ x, rdP (rdR t 128) = x := ⟨_, rfl⟩
  have HR : Hid (R = if e = 0 then (if f = 0 then (p == u && q == v, 0) else (false, f)) else (false, e)) := Lib.hid (by
    rw [← hR]
    cases hr : rdR s 128 with
    | inl z =>
      have := rd_err hr
      rw [hr] at hx
      cases hx
      rw [if_neg this]
    | inr z =>
      rw [hr] at hx
      cases hx
      rw [if_pos rfl]
      cases hf : rdR t 128 with
      | inl z =>
        have := rd_err hf
        rw [hf] at hy
        cases hy
        rw [if_neg this]
      | inr z =>
        rw [hf] at hy
        cases hy
        rfl)
  rw [hx] at HD
  rw [hy] at HF
  clear hR hx hy
  unfold rd4A at HD HF
  dsimp only at HD HF
  have go : ∀ (O : Int), (if (e : Int) = 0 then (f : Int) else (e : Int)) = O → Hid ((if (e : Int) = 0 then (f : Int) else (e : Int)) = O) := fun O h => Lib.hid h
  have HO : Hid (∀ (O : Int), (if (e : Int) = 0 then (f : Int) else (e : Int)) = O → ∀ (W : World) (B : Nat), W.heap.size = B → Calls Tryd.prog 43 #[.slice (some ⟨B, 0, none⟩) 2 2] (W.alloc (.cells #[.int .i64 (e : Int), .int .i64 (f : Int)] 23)) fun r w' => r = .returned (.int .i64 O) ∧ w' = W.alloc (.cells #[.int .i64 (e : Int), .int .i64 (f : Int)] 23)) := Lib.hid fun O hO W B hB => by
    have h := or2_at e f W B hB
    rw [hO] at h
    exact h
  obtain ⟨O, hO⟩ : ∃ O, (if (e : Int) = 0 then (f : Int) else (e : Int)) = O := ⟨_, rfl⟩
  replace HO := Lib.hid (HO.out O hO)
  obtain ⟨b1, h1⟩ : ∃ b, (p == u) = b := ⟨_, rfl⟩
  obtain ⟨b2, h2⟩ : ∃ b, (q == v) = b := ⟨_, rfl⟩
  rw [h1, h2] at HR
  have HO2 : Hid ((O = 0 → R = (b1 && b2, 0)) ∧ (O ≠ 0 → boolW R = .tuple #[.bool false, .int .i64 O])) := Lib.hid (by
    rw [← hO, HR.out]
    by_cases he : e = 0
    · subst he
      rw [if_pos rfl]
      rw [if_pos (show ((0 : Nat) : Int) = 0 from rfl)]
      refine ⟨fun h => ?_, fun h => ?_⟩
      · rw [if_pos (by omega)]
      · rw [if_neg (by omega)]; rfl
    · rw [if_neg he, if_neg (show ¬ ((e : Int) = 0) by omega)]
      exact ⟨fun h => absurd h (by omega), fun _ => rfl⟩)
  clear go hO HR
  go_enter Tryd.func19, Tryd.ntmps19
  go_wp2_with fail
  refine HD.out.mono ?_
  rintro e1 w1 ⟨rfl, hb1⟩
  go_wp2_with fail
  refine (HF.out _ (hV.below hb1)).mono ?_
  rintro e2 w2 ⟨rfl, hb2⟩
  have hB2 := hb1.trans (hb2.mono hb1.size)
  clear hb1 hb2
  have b1x := (CBlk.new 57 w2 [.string ⟨p.toArray⟩, .string ⟨q.toArray⟩, .int .i64 e, .int .i64 st]).alloc (.cells #[.string ⟨u.toArray⟩, .string ⟨v.toArray⟩, .int .i64 f, .int .i64 su] 57)
  have b2x := CBlk.new 57 (w2.alloc (.cells #[.string ⟨p.toArray⟩, .string ⟨q.toArray⟩, .int .i64 e, .int .i64 st] 57)) [.string ⟨u.toArray⟩, .string ⟨v.toArray⟩, .int .i64 f, .int .i64 su]
  rw [World.size_alloc] at b2x
  have hB := (hB2.alloc hB2.size (.cells #[.string ⟨p.toArray⟩, .string ⟨q.toArray⟩, .int .i64 e, .int .i64 st] 57)).alloc (by simp; have := hB2.size; omega) (.cells #[.string ⟨u.toArray⟩, .string ⟨v.toArray⟩, .int .i64 f, .int .i64 su] 57)
  go_upto_region 2 with fail
  obtain ⟨X, hX⟩ : ∃ X, (w2.alloc (.cells #[.string ⟨p.toArray⟩, .string ⟨q.toArray⟩, .int .i64 e, .int .i64 st] 57)).alloc (.cells #[.string ⟨u.toArray⟩, .string ⟨v.toArray⟩, .int .i64 f, .int .i64 su] 57) = X := ⟨_, rfl⟩
  have b1x : CBlk 57 X w2.heap.size [.string ⟨p.toArray⟩, .string ⟨q.toArray⟩, .int .i64 e, .int .i64 st] := by rw [← hX]; exact b1x
  have b2x : CBlk 57 X (w2.heap.size + 1) [.string ⟨u.toArray⟩, .string ⟨v.toArray⟩, .int .i64 f, .int .i64 su] := by rw [← hX]; exact b2x
  rw [hX] at hB ⊢
  clear hX
  obtain ⟨A, hA⟩ : ∃ A, w2.heap.size = A := ⟨_, rfl⟩
  rw [hA] at b1x b2x ⊢
  obtain ⟨B, hBe⟩ : ∃ B, A + 1 = B := ⟨_, rfl⟩
  rw [hBe] at b2x ⊢
  clear hA hBe hB2
  obtain ⟨r0, r1, r2, r3⟩ := rcells4 b1x
  obtain ⟨x0, x1, x2, x3⟩ := rcells4 b2x
  have b1y := b1x.alloc (.cells #[.int .i64 (e : Int), .int .i64 (f : Int)] 23)
  have b2y := b2x.alloc (.cells #[.int .i64 (e : Int), .int .i64 (f : Int)] 23)
  have hBy := hB.alloc hB.size (.cells #[.int .i64 (e : Int), .int .i64 (f : Int)] 23)
  go_wp2_with fail
  refine (HO.out X _ rfl).mono ?_
  rintro e3 w3 ⟨rfl, hw3⟩
  rw [← hw3] at b1y b2y hBy
  clear hw3 r0 r1 r2 r3 x0 x1 x2 x3 b1x b2x hB
  obtain ⟨r0, r1, r2, r3⟩ := rcells4 b1y
  obtain ⟨x0, x1, x2, x3⟩ := rcells4 b2y
  by_cases hz : O = 0
  · have HR := Lib.hid (HO2.out.1 hz)
    have g1 : (O != 0) = false := by rw [bne_eq_false_iff_eq]; exact hz
    clear hz HO2 HO
    cases b1 <;> cases b2
    all_goals
      go_wp2_with fail
      go_ret2
      exact ⟨by rw [HR.out]; rfl, hBy⟩
  · have HR := Lib.hid (HO2.out.2 hz)
    have g1 : (O != 0) = true := by rw [bne_iff_ne]; exact hz
    clear hz HO2 HO
    go_wp2_with fail
    go_ret2
    exact ⟨by rw [HR.out]; rfl, hBy⟩
end Go.Proofs.YtjinedeelkdgiaaDoor
