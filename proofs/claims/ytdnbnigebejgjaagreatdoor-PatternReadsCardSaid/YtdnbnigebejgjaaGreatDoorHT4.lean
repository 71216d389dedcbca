/-
  pattern.setText: a set as it is written.
  The text of a node, purely, and how long it may be.
-/
import Derived.Test.YtdnbnigebejgjaaGreatDoorHJT3
namespace Go.Proofs.YtdnbnigebejgjaaGreatDoor
open Go.RowKit Go.Shelf
/-- A set as it is written. -/
def setT (s : WSet) : List UInt8 :=
  if s = WSet.empty.not then [46]
  else if (upto s 0 256).length = 1 then quo [94, 36, 46, 42, 43, 63, 40, 41, 91, 93, 124, 92] (UInt8.ofNat ((upto s 0 256).getD 0 0))
  else clsT s
theorem eq_wsets (s t : WSet) (w : World) :
    (Op.equalIn 10000 41 (.agg #[.int .u64 (s.a.toNat : Int), .int .u64 (s.b.toNat : Int), .int .u64 (s.c.toNat : Int), .int .u64 (s.d.toNat : Int)]) (.agg #[.int .u64 (t.a.toNat : Int), .int .u64 (t.b.toNat : Int), .int .u64 (t.c.toNat : Int), .int .u64 (t.d.toNat : Int)])).run Tryz.prog w = .ok (decide (s = t)) w := by
  rw [eq_sets]
  congr 1
  obtain ⟨a, b, c, d⟩ := s
  obtain ⟨a', b', c', d'⟩ := t
  have k : ∀ x y : BitVec 64, ((x.toNat : Int) == (y.toNat : Int)) = decide (x = y) := fun x y => by
    by_cases h : x = y
    · subst h; simp
    · have : x.toNat ≠ y.toNat := fun e => h (BitVec.eq_of_toNat_eq e)
      rw [decide_eq_false h]
      exact beq_eq_false_iff_ne.2 (by omega)
  dsimp only
  rw [k, k, k, k]
  by_cases h1 : a = a' <;> by_cases h2 : b = b' <;> by_cases h3 : c = c' <;> by_cases h4 : d = d' <;> simp [h1, h2, h3, h4]
set_option maxHeartbeats 4000000 in
set_option maxRecDepth 100000 in
theorem setText_any (s : WSet) (W : World) (hT : Tab W) (h0w : 1 < W.heap.size) :
    Calls Tryz.prog 58 #[s.v] W fun e w' => e = .returned (.string ⟨(setT s).toArray⟩) ∧ Below W.heap.size W w' := by
  obtain ⟨q, hq⟩ : ∃ q, decide (s = WSet.empty.not) = q := ⟨_, rfl⟩
  have heq := fun w => eq_wsets s WSet.empty.not w
  have HEV := Lib.hid fun w => everything_any w
  obtain ⟨E, hE⟩ : ∃ E, WSet.empty.not = E := ⟨_, rfl⟩
  have HCT := Lib.hid fun w h1 h2 => classText_any s w h1 h2
  have HLI : Hid (∀ w, Tab w → 1 < w.heap.size → Calls Tryz.prog 77 #[s.v] w fun e w' =>
      ∃ v, e = .returned v ∧ w'.ownsRow w.heap.size 5 1 v (upto s 0 256).length ((upto s 0 256).map enc8) ∧ (v = .slice none 0 0 ↔ upto s 0 256 = []) ∧ Below w.heap.size w w') := Lib.hid fun w h1 h2 => by
    obtain ⟨a, b, c, d⟩ := s
    exact list_any a b c d w h1 h2
  have HRES : Hid (setT s = if q = true then [46] else if (upto s 0 256).length = 1 then quo [94, 36, 46, 42, 43, 63, 40, 41, 91, 93, 124, 92] (UInt8.ofNat ((upto s 0 256).getD 0 0)) else clsT s) := Lib.hid (by
    unfold setT
    rw [← hq]
    simp only [decide_eq_true_eq])
  rw [hE] at hq heq HEV
  rw [hq] at heq
  obtain ⟨U, hU⟩ : ∃ U, upto s 0 256 = U := ⟨_, rfl⟩
  have hlt : ∀ x ∈ U, x < 256 := fun x hx => upto_lt (hU ▸ hx)
  rw [hU] at HLI HRES
  obtain ⟨a, b, c, d⟩ := s
  obtain ⟨a', b', c', d'⟩ := E
  unfold WSet.v at HEV HCT HLI ⊢
  clear hq hE hU
  have b0 : Blk (W.alloc (.cells #[.int .u64 (a.toNat : Int), .int .u64 (b.toNat : Int), .int .u64 (c.toNat : Int), .int .u64 (d.toNat : Int)] 41)) W.heap.size ⟨a, b, c, d⟩ := Blk.new W ⟨a, b, c, d⟩
  have hB0 : Below W.heap.size W (W.alloc (.cells #[.int .u64 (a.toNat : Int), .int .u64 (b.toNat : Int), .int .u64 (c.toNat : Int), .int .u64 (d.toNat : Int)] 41)) := (Below.refl _ W).alloc (Nat.le_refl _) _
  go_enter Tryz.func58, Tryz.ntmps58
  go_upto_region 1 with fail
  generalize hW0 : W.alloc (.cells #[.int .u64 (a.toNat : Int), .int .u64 (b.toNat : Int), .int .u64 (c.toNat : Int), .int .u64 (d.toNat : Int)] 41) = W0 at b0 hB0 ⊢
  clear hW0
  obtain ⟨c0, c1, c2, c3⟩ : W0.drew.cell? ⟨W.heap.size, 0, none⟩ = some (.int .u64 (a.toNat : Int)) ∧ W0.drew.cell? ⟨W.heap.size, 1, none⟩ = some (.int .u64 (b.toNat : Int)) ∧ W0.drew.cell? ⟨W.heap.size, 2, none⟩ = some (.int .u64 (c.toNat : Int)) ∧ W0.drew.cell? ⟨W.heap.size, 3, none⟩ = some (.int .u64 (d.toNat : Int)) := b0.drew.cells
  go_region_with (go_at_call 76; refine (HEV.out _).mono ?_; rintro e w1 ⟨rfl, hb1⟩; have b1 := b0.drew.below hb1 b0.drew.lt; have hB1 := hB0.drew.trans (hb1.mono hB0.drew.size); obtain ⟨d0, d1, d2, d3⟩ : w1.cell? ⟨W.heap.size, 0, none⟩ = some (.int .u64 (a.toNat : Int)) ∧ w1.cell? ⟨W.heap.size, 1, none⟩ = some (.int .u64 (b.toNat : Int)) ∧ w1.cell? ⟨W.heap.size, 2, none⟩ = some (.int .u64 (c.toNat : Int)) ∧ w1.cell? ⟨W.heap.size, 3, none⟩ = some (.int .u64 (d.toNat : Int)) := b1.cells; clear hb1)
  all_goals
    cases q with
    | true =>
      go_wp2_with fail
      go_ret
      exact ⟨by rw [HRES.out]; rfl, hB1⟩
    | false =>
      rw [show (if (false : Bool) = true then [46] else if U.length = 1 then quo [94, 36, 46, 42, 43, 63, 40, 41, 91, 93, 124, 92] (UInt8.ofNat (U.getD 0 0)) else clsT ⟨a, b, c, d⟩) = (if U.length = 1 then quo [94, 36, 46, 42, 43, 63, 40, 41, 91, 93, 124, 92] (UInt8.ofNat (U.getD 0 0)) else clsT ⟨a, b, c, d⟩) from if_neg (by simp)] at HRES
      have hz1 := hB1.size
      go_wp2_with fail
      refine (HLI.out _ (hT.below hB1 h0w) (by omega)).mono ?_
      rintro e w2 ⟨v, rfl, hrow, _, hb2⟩
      have b2 := b1.below hb2 b1.lt
      have hB2 := hB1.trans (hb2.mono hB1.size)
      have hz2 := hB2.size
      clear c0 c1 c2 c3 d0 d1 d2 d3
      obtain ⟨d0, d1, d2, d3⟩ : w2.cell? ⟨W.heap.size, 0, none⟩ = some (.int .u64 (a.toNat : Int)) ∧ w2.cell? ⟨W.heap.size, 1, none⟩ = some (.int .u64 (b.toNat : Int)) ∧ w2.cell? ⟨W.heap.size, 2, none⟩ = some (.int .u64 (c.toNat : Int)) ∧ w2.cell? ⟨W.heap.size, 3, none⟩ = some (.int .u64 (d.toNat : Int)) := b2.cells
      by_cases hl : U.length = 1
      · have hr := hrow
        rw [hl] at hr
        obtain ⟨g, cap, rfl, hg, hg2⟩ := hr.form (by omega)
        have hx : U.getD 0 0 < 256 := by
          rw [List.getD_eq_getElem?_getD, List.getElem?_eq_getElem (by omega : 0 < U.length)]
          exact hlt _ (List.getElem_mem _)
        have hc := hr.cellAt 0 (by omega)
        have hxx : (U.map enc8)[0]? = some (.int .u8 ((UInt8.ofNat (U.getD 0 0)).toNat : Int)) := by
          rw [List.getElem?_map, List.getElem?_eq_getElem (by omega : 0 < U.length)]
          have hx2 : U.getD 0 0 = U[0] := by rw [List.getD_eq_getElem?_getD, List.getElem?_eq_getElem (by omega : 0 < U.length)]; rfl
          show some (Value.int .u8 ((U[0] : Int) % 256)) = _
          rw [hx2] at hx ⊢
          rw [UInt8.toNat_ofNat']
          congr 2
        obtain ⟨x, hxe⟩ : ∃ x, UInt8.ofNat (U.getD 0 0) = x := ⟨_, rfl⟩
        rw [hxe] at hxx HRES
        have HQ := Lib.hid fun w => quoted_any x [94, 36, 46, 42, 43, 63, 40, 41, 91, 93, 124, 92] w
        have HR2 : Hid (setT ⟨a, b, c, d⟩ = quo [94, 36, 46, 42, 43, 63, 40, 41, 91, 93, 124, 92] x) := Lib.hid (HRES.out.trans (if_pos hl))
        rw [hxx] at hc
        clear hxx hxe hx hr hrow hlt hl HLI HRES
        go_wp2_with fail
        refine (HQ.out _).mono ?_
        rintro e w3 ⟨rfl, hb3⟩
        go_wp2_with fail
        go_ret
        exact ⟨by rw [HR2.out]; rfl, hB2.trans (hb3.mono hB2.size)⟩
      · have HR2 : Hid (setT ⟨a, b, c, d⟩ = clsT ⟨a, b, c, d⟩) := Lib.hid (HRES.out.trans (if_neg hl))
        have a1 : ((U.length : Int) == 1) = false := beq_eq_false_iff_ne.2 (by omega)
        obtain ⟨p, cc, rfl⟩ := own_slice hrow
        clear hrow hl
        go_wp2_with fail
        refine (HCT.out _ (hT.below hB2 h0w) (by omega)).mono ?_
        rintro e w3 ⟨rfl, hb3⟩
        go_wp2_with fail
        go_ret
        exact ⟨by rw [HR2.out]; rfl, hB2.trans (hb3.mono hB2.size)⟩
end Go.Proofs.YtdnbnigebejgjaaGreatDoor
namespace Go.Proofs.YtdnbnigebejgjaaGreatDoor
open Go.RowKit Go.Shelf
/-- The text of node i. -/
def ntT (L : List ND) : Nat → Nat → List UInt8
  | 0, _ => []
  | f + 1, i =>
    let n := L.getD i (bare 0 .empty 0)
    if n.kind = 1 then setT n.set ++ signL n.times.toNat
    else if n.kind = 4 then [40] ++ ntT L f n.first.toNat ++ [41] ++ signL n.times.toNat
    else Lib.join ((kidL L i).map fun k => ntT L f k.toNat) (if n.kind = 3 then [124] else [])
theorem clsT_len (s : WSet) : (clsT s).length ≤ 1287 := by
  unfold clsT runsR
  have h1 := flat_len (runsF 257 (upto s 0 256))
  have h2 := runsF_len 257 (upto s 0 256)
  simp only [List.length_append, List.length_cons, List.length_nil]
  omega
theorem setT_len (s : WSet) : (setT s).length ≤ 1287 := by
  unfold setT
  split
  · simp
  · split
    · have := (quo_len [94, 36, 46, 42, 43, 63, 40, 41, 91, 93, 124, 92] (UInt8.ofNat ((upto s 0 256).getD 0 0))).2
      omega
    · exact clsT_len s
theorem joinTail_len (sep : List UInt8) (hs : sep.length ≤ 1) : ∀ xs : List (List UInt8), (Lib.joinTail sep xs).length ≤ (xs.map fun x => x.length + 1).sum
  | [] => by simp [Lib.joinTail]
  | x :: r => by
    have h := joinTail_len sep hs r
    unfold Lib.joinTail at h ⊢
    simp only [List.map_cons, List.flatten_cons, List.length_append, List.sum_cons] at h ⊢
    omega
theorem join_len (sep : List UInt8) (hs : sep.length ≤ 1) : ∀ xs : List (List UInt8), (Lib.join xs sep).length ≤ (xs.map fun x => x.length + 1).sum
  | [] => by rw [Lib.join_nil]; simp
  | x :: r => by
    have h := joinTail_len sep hs r
    rw [Lib.join_cons]
    simp only [List.length_append, List.map_cons, List.sum_cons] at h ⊢
    omega
theorem beh_snd {L : List ND} {f i k : Nat} (h : beh L f i = some k) : sndB (L.getD i (bare 0 .empty 0)) = true := by
  unfold beh at h
  split at h
  · rename_i hlt
    split at h
    · rename_i hs
      rwa [List.getD_eq_getElem?_getD, List.getElem?_eq_getElem hlt]
    · cases h
  · cases h
theorem snd1 {n : ND} (hk : n.kind = 1) (h : sndB n = true) : n.first = -1 ∧ n.group = 0 ∧ n.set ≠ .empty ∧ 0 ≤ n.times ∧ n.times ≤ 3 := by
  unfold sndB at h
  rw [if_pos hk] at h
  simp only [Bool.and_eq_true, decide_eq_true_eq, Bool.not_eq_true'] at h
  exact ⟨h.1.1.1.1, h.1.1.1.2, of_decide_eq_false h.1.1.2, h.1.2, h.2⟩
theorem snd4 {n : ND} (hk : n.kind = 4) (h : sndB n = true) : n.first ≠ -1 ∧ n.set = .empty ∧ 0 ≤ n.times ∧ n.times ≤ 3 := by
  unfold sndB at h
  rw [hk] at h
  simp at h
  have h2 := h.2
  refine ⟨h.1.1, of_decide_eq_true h.1.2, ?_, ?_⟩ <;> omega
theorem snd_kind {n : ND} (h : sndB n = true) : n.kind = 1 ∨ n.kind = 2 ∨ n.kind = 3 ∨ n.kind = 4 := by
  unfold sndB at h
  split at h
  · exact .inl ‹_›
  · split at h
    · exact .inr (.inl ‹_›)
    · split at h
      · exact .inr (.inr (.inl ‹_›))
      · split at h
        · exact .inr (.inr (.inr ‹_›))
        · cases h
theorem kids_sum {L : List ND} (g : Nat → List UInt8) (hg : ∀ i k fb, beh L fb i = some k → (g i).length + 1 ≤ 2000 * (k - i)) : ∀ (F f : Nat) (kd : Int) (nx : Nat) (c : Int) (e : Nat), kl L f kd nx c = some e → ((chn L F c).map fun k => (g k.toNat).length + 1).sum ≤ 2000 * (e - nx)
  | 0, f, kd, nx, c, e, h => by
    by_cases hc : c = -1
    · rw [hc, chn_none]; simp
    · obtain ⟨f', rfl, rfl, hlt, k2, hb, hk⟩ := kl_open h hc
      have h1 := hg _ _ _ hb
      have h2 := (kl_ge L _ _ _ _ _ hk).1
      unfold chn
      rw [if_neg hc]
      simp only [List.map_cons, List.map_nil, List.sum_cons, List.sum_nil, Int.toNat_natCast]
      omega
  | F + 1, f, kd, nx, c, e, h => by
    by_cases hc : c = -1
    · rw [hc, chn_none]; simp
    · obtain ⟨f', rfl, rfl, hlt, k2, hb, hk⟩ := kl_open h hc
      have h1 := hg _ _ _ hb
      have h2 := (kl_ge L _ _ _ _ _ hk).1
      have h3 := (beh_open hb).2.2.1
      have h4 := kids_sum g hg F f' kd k2 _ e hk
      rw [chn_next (by omega) (by omega), Int.toNat_natCast]
      simp only [List.map_cons, List.sum_cons, Int.toNat_natCast]
      omega
theorem nt_len (L : List ND) : ∀ (f i k fb : Nat), beh L fb i = some k → (ntT L f i).length + 1 ≤ 2000 * (k - i)
  | 0, i, k, fb, h => by
    have := (beh_open h).2.2.1
    show 0 + 1 ≤ _
    omega
  | f + 1, i, k, fb, h => by
    obtain ⟨hlt, hkl, hik, _⟩ := beh_open h
    unfold ntT
    dsimp only
    split
    · have h1 := setT_len (L.getD i (bare 0 .empty 0)).set
      have h2 := signL_len (L.getD i (bare 0 .empty 0)).times.toNat
      rw [List.length_append]
      omega
    · split
      · have h2 := signL_len (L.getD i (bare 0 .empty 0)).times.toNat
        simp only [List.length_append, List.length_cons, List.length_nil]
        have hc := (snd4 ‹_› (beh_snd h)).1
        obtain ⟨f', rfl, he, hlt2, k2, hb, hk⟩ := kl_open hkl hc
        have h1 := nt_len L f _ _ _ hb
        have h3 := (kl_ge L _ _ _ _ _ hk).1
        have h5 := (beh_open hb).2.2.1
        rw [he, Int.toNat_natCast]
        omega
      · have h1 := join_len (if (L.getD i (bare 0 .empty 0)).kind = 3 then [124] else []) (by split <;> simp) ((kidL L i).map fun k => ntT L f k.toNat)
        have h2 := kids_sum (fun k => ntT L f k) (fun i k fb hb => nt_len L f i k fb hb) (L.length + 1) _ _ _ _ _ hkl
        rw [List.map_map] at h1
        have h3 : ((kidL L i).map ((fun x => x.length + 1) ∘ fun k => ntT L f k.toNat)).sum = ((chn L (L.length + 1) (L.getD i (bare 0 .empty 0)).first).map fun k => (ntT L f k.toNat).length + 1).sum := rfl
        omega
def strV (l : List UInt8) : Value := .string ⟨l.toArray⟩
/-- strings.Join over a row of one's own. -/
theorem joinRow_any {X : World} {base : Nat} {v : Value} (xs : List (List UInt8)) (sep : List UInt8) (h : X.ownsRow base 9 1 v xs.length (xs.map strV)) (hl : (Lib.join xs sep).length ≤ 140737488355328) (hn : xs.length ≤ 1000000) :
    Calls Tryz.prog 59 #[v, .string ⟨sep.toArray⟩] X fun e w' => e = .returned (.string ⟨(Lib.join xs sep).toArray⟩) ∧ Below X.heap.size X w' := by
  by_cases h0 : xs = []
  · subst h0
    obtain ⟨p, c, rfl⟩ := own_slice h
    refine (join0_any p c _ X).mono ?_
    rintro e w' ⟨rfl, rfl⟩
    exact ⟨rfl, Below.refl _ _⟩
  · have hp : 0 < xs.length := List.length_pos_iff.2 h0
    obtain ⟨g, cap, rfl, hg, hgl⟩ := h.form hp
    have hcap : xs.length ≤ cap := by
      rcases h.2 with ⟨e, _⟩ | ⟨g', cap', cur, e, _, _, h1, _⟩
      · cases e
      · injection e with _ _ e3
        omega
    have hmm : (xs.map fun l => (⟨l.toArray⟩ : ByteArray)).map (·.data.toList) = xs := by
      rw [List.map_map]
      exact (List.map_congr_left (fun l _ => by simp)).trans (List.map_id xs)
    have hj := join_any g 0 cap (xs.map fun l => ⟨l.toArray⟩) ⟨sep.toArray⟩ X (by
      intro j x hx
      have hjl : j < xs.length := by
        have := (List.getElem?_eq_some_iff.1 hx).1
        rwa [List.length_map] at this
      rw [List.getElem?_map, List.getElem?_eq_getElem hjl] at hx
      injection hx with hx
      rw [Nat.zero_add, h.cellAt j (by omega), List.getElem?_map, List.getElem?_eq_getElem hjl, ← hx]
      rfl) hgl (by rw [List.length_map]; omega) (by rw [List.length_map]; exact hcap) (by rw [hmm]; exact hl)
    rw [List.length_map, hmm] at hj
    exact hj
end Go.Proofs.YtdnbnigebejgjaaGreatDoor
