/-
  Groups of a tree: the order of groups, and the tree of a pattern in parentheses.
-/
import Derived.Test.YtdnbnigebejgjaaDoorHJA7
import Derived.Test.YtdnbnigebejgjaaDoorHC8
namespace Go.Proofs.YtdnbnigebejgjaaDoor
open Go.RowKit
theorem snd_group {n : ND} (h : sndB n = true) : n.kind = 4 ∨ n.group = 0 := by
  rcases snd_kind h with k | k | k | k
  · exact .inr (snd1 k h).2.1
  · right
    unfold sndB at h
    rw [k] at h
    simp at h
    exact h.2
  · exact .inr (snd_root k h)
  · exact .inl k
theorem tree_snd {L : List ND} {g : Int} (h : chkR L g = 0) (i : Nat) (hi : i < L.length) : sndB (L.getD i (bare 0 .empty 0)) = true := by
  obtain ⟨_, ht, _⟩ := chk_zero h
  obtain ⟨_, _, f3⟩ := treeB_facts ht
  obtain ⟨k, hk, _⟩ := beh_all f3 i (Nat.zero_le _) hi
  exact beh_snd hk
theorem num_lt : ∀ (L : List ND) (c : Int), numOK L c = true → ∀ i, i < L.length → (L.getD i (bare 0 .empty 0)).kind = 4 → c < (L.getD i (bare 0 .empty 0)).group ∧ ∀ j, i < j → j < L.length → (L.getD j (bare 0 .empty 0)).kind = 4 → (L.getD i (bare 0 .empty 0)).group < (L.getD j (bare 0 .empty 0)).group
  | [], _, _, i, hi, _ => by simp at hi
  | n :: L, c, h, 0, _, hk => by
    have hk : n.kind = 4 := hk
    unfold numOK at h
    rw [if_pos hk] at h
    simp only [Bool.and_eq_true, decide_eq_true_eq] at h
    have e : ((n :: L).getD 0 (bare 0 .empty 0)) = n := rfl
    rw [e]
    refine ⟨by omega, fun j hj hl hkj => ?_⟩
    obtain ⟨j, rfl⟩ : ∃ k, j = k + 1 := ⟨j - 1, by omega⟩
    have := (num_lt L (c + 1) h.2 j (by simpa using hl) hkj).1
    have e2 : ((n :: L).getD (j + 1) (bare 0 .empty 0)) = L.getD j (bare 0 .empty 0) := rfl
    rw [e2]
    omega
  | n :: L, c, h, i + 1, hi, hk => by
    have e2 : ∀ j, ((n :: L).getD (j + 1) (bare 0 .empty 0)) = L.getD j (bare 0 .empty 0) := fun _ => rfl
    rw [e2] at hk ⊢
    unfold numOK at h
    split at h
    · simp only [Bool.and_eq_true, decide_eq_true_eq] at h
      have k := num_lt L (c + 1) h.2 i (by simpa using hi) hk
      refine ⟨by omega, fun j hj hl hkj => ?_⟩
      obtain ⟨j, rfl⟩ : ∃ k, j = k + 1 := ⟨j - 1, by omega⟩
      rw [e2] at hkj ⊢
      exact k.2 j (by omega) (by simpa using hl) hkj
    · have k := num_lt L c h i (by simpa using hi) hk
      refine ⟨k.1, fun j hj hl hkj => ?_⟩
      obtain ⟨j, rfl⟩ : ∃ k, j = k + 1 := ⟨j - 1, by omega⟩
      rw [e2] at hkj ⊢
      exact k.2 j (by omega) (by simpa using hl) hkj
theorem plc_is {L : List ND} {o : Int} {p : Nat} (h : plc L o = some p) : p < L.length ∧ (L.getD p (bare 0 .empty 0)).group = o := by
  unfold plc at h
  rw [List.findIdx?_eq_some_iff_getElem] at h
  obtain ⟨hp, h1, _⟩ := h
  refine ⟨hp, ?_⟩
  rw [List.getD_eq_getElem?_getD, List.getElem?_eq_getElem hp]
  exact of_decide_eq_true h1
/-- Where a group stands, and what is behind it. -/
structure GrpAt (L : List ND) (o : Int) (p k : Nat) : Prop where
  pl : plc L o = some p
  be : beh L L.length p = some k
  lt : p < k
  kd : 1 ≤ o → (L.getD p (bare 0 .empty 0)).kind = 4
theorem grp_at {L : List ND} {g o : Int} (h : chkR L g = 0) (h0 : 0 ≤ o) (h1 : o ≤ g) : ∃ p k, GrpAt L o p k := by
  obtain ⟨p, hp⟩ := plc_all h h0 h1
  obtain ⟨hl, hg⟩ := plc_is hp
  obtain ⟨_, ht, _⟩ := chk_zero h
  obtain ⟨_, _, f3⟩ := treeB_facts ht
  obtain ⟨k, hk, h2, _⟩ := beh_all f3 p (Nat.zero_le _) hl
  refine ⟨p, k, hp, hk, h2, fun ho => ?_⟩
  rcases snd_group (tree_snd h p hl) with k | k
  · exact k
  · omega
theorem hd_iff {L : List ND} {o i : Int} {p k q l : Nat} (ho : GrpAt L o p k) (hi : GrpAt L i q l) : hdB L o i = true ↔ p ≤ q ∧ q < k := by
  unfold hdB
  rw [ho.pl, hi.pl]
  dsimp only
  rw [ho.be]
  show decide ((p : Int) ≤ (q : Int) ∧ (q : Int) < (k : Int)) = true ↔ _
  rw [decide_eq_true_eq]
  omega
theorem hd_refl {L : List ND} {g a : Int} (h : chkR L g = 0) (h0 : 1 ≤ a) (h1 : a ≤ g) : hdB L a a = true := by
  obtain ⟨p, k, ha⟩ := grp_at h (by omega) h1
  exact (hd_iff ha ha).2 ⟨Nat.le_refl _, ha.lt⟩
theorem hd_le {L : List ND} {g a b : Int} (h : chkR L g = 0) (a0 : 1 ≤ a) (a1 : a ≤ g) (b0 : 1 ≤ b) (b1 : b ≤ g) (hab : hdB L a b = true) : a ≤ b := by
  obtain ⟨p, k, ha⟩ := grp_at h (by omega) a1
  obtain ⟨q, l, hb⟩ := grp_at h (by omega) b1
  obtain ⟨h1, _⟩ := (hd_iff ha hb).1 hab
  obtain ⟨hp, ep⟩ := plc_is ha.pl
  obtain ⟨hq, eq⟩ := plc_is hb.pl
  by_cases e : p = q
  · subst e; omega
  · obtain ⟨_, _, hn⟩ := chk_zero h
    unfold nmB at hn
    simp only [Bool.and_eq_true] at hn
    have := (num_lt L 0 hn.1 p hp (ha.kd a0)).2 q (by omega) hq (hb.kd b0)
    omega
theorem hd_anti {L : List ND} {g a b : Int} (h : chkR L g = 0) (a0 : 1 ≤ a) (a1 : a ≤ g) (b0 : 1 ≤ b) (b1 : b ≤ g) : (hdB L a b && hdB L b a) = decide (a = b) := by
  by_cases e : a = b
  · subst e
    rw [hd_refl h a0 a1, decide_eq_true rfl]; rfl
  · rw [decide_eq_false e]
    cases h1 : hdB L a b with
    | false => rfl
    | true =>
      cases h2 : hdB L b a with
      | false => rfl
      | true =>
        have := hd_le h a0 a1 b0 b1 h1
        have := hd_le h b0 b1 a0 a1 h2
        exact absurd (by omega) e
theorem hd_trans {L : List ND} {g a b c : Int} (h : chkR L g = 0) (a0 : 1 ≤ a) (a1 : a ≤ g) (b0 : 1 ≤ b) (b1 : b ≤ g) (c0 : 1 ≤ c) (c1 : c ≤ g) (hab : hdB L a b = true) (hbc : hdB L b c = true) : hdB L a c = true := by
  obtain ⟨p, k, ha⟩ := grp_at h (by omega) a1
  obtain ⟨q, l, hb⟩ := grp_at h (by omega) b1
  obtain ⟨r, m, hc⟩ := grp_at h (by omega) c1
  obtain ⟨h1, h2⟩ := (hd_iff ha hb).1 hab
  obtain ⟨h3, h4⟩ := (hd_iff hb hc).1 hbc
  obtain ⟨l', hl, _, h5⟩ := beh_all ha.be q h1 h2
  rw [hb.be] at hl
  injection hl with hl
  exact (hd_iff ha hc).2 ⟨by omega, by omega⟩
theorem dis_two {L : List ND} {g a b : Int} (a0 : 1 ≤ a) (a1 : a ≤ g) (b0 : 1 ≤ b) (b1 : b ≤ g) : disR L g [a, b] = (!(hdB L a b || hdB L b a), 0) := by
  unfold disR
  have : [a, b].all (fun x => decide (0 ≤ x ∧ x ≤ g)) = true := by simp; omega
  rw [if_pos this]
  simp only [dsjO, dsjI, List.all_nil, List.nil_append, List.all_cons, Bool.and_true, Bool.true_and]
  rw [Bool.or_comm]
/-- A tree below three nodes more. -/
def sx (k : Int) : Int := if k = -1 then -1 else k + 3
def sh (n : ND) : ND := { n with group := if n.kind = 4 then n.group + 1 else n.group, first := sx n.first, next := sx n.next }
theorem sx_hd (b : Nat) (r : Ps) : sx (hdS b r) = hdS (b + 3) r := by
  cases r with
  | nil => rfl
  | cons p r =>
    show sx (b : Int) = ((b + 3 : Nat) : Int)
    unfold sx
    rw [if_neg (by omega)]
    omega
theorem sx_nat (b : Nat) : sx (b : Int) = ((b + 3 : Nat) : Int) := by
  unfold sx
  rw [if_neg (by omega)]
  omega
mutual
theorem sh_P : ∀ (p : Pc) (b g : Nat) (nx : Int), flP (b + 3) (g + 1) (sx nx) p = (flP b g nx p).map sh
  | .atom w tm, b, g, nx => rfl
  | .grp c tm, b, g, nx => by
    unfold flP
    rw [List.map_cons, List.map_cons, ← sh_Q c (b + 2) (g + 1), show b + 3 + 2 = b + 2 + 3 by omega]
    have e1 := sx_nat (b + 1)
    have e2 := sx_nat (b + 2)
    unfold sh
    dsimp only
    rw [if_pos rfl, if_neg (by decide), e1, e2]
    have e3 : ((g + 1 : Nat) : Int) + 1 = ((g + 1 + 1 : Nat) : Int) := by omega
    rw [e3]
    have e4 : b + 1 + 3 = b + 3 + 1 := by omega
    rw [e4]
    have e5 : b + 2 + 3 = b + 3 + 2 := by omega
    rw [e5]
    rfl
theorem sh_S : ∀ (s : Ps) (b g : Nat), flS (b + 3) (g + 1) s = (flS b g s).map sh
  | .nil, _, _ => rfl
  | .cons p r, b, g => by
    unfold flS
    rw [List.map_append, ← sh_P p b g, ← sh_S r, sx_hd, show b + 3 + szP p = b + szP p + 3 by omega, show g + 1 + gcP p = g + gcP p + 1 by omega]
theorem sh_Q : ∀ (c : Cs) (b g : Nat), flQ (b + 3) (g + 1) c = (flQ b g c).map sh
  | .one s, b, g => by
    unfold flQ
    rw [List.map_cons, ← sh_S s (b + 1) g, show b + 3 + 1 = b + 1 + 3 by omega]
    have e := sx_hd (b + 1) s
    unfold sh
    dsimp only
    rw [if_neg (by decide), e]
    rfl
  | .cons s r, b, g => by
    unfold flQ
    rw [List.map_cons, List.map_append, ← sh_S s (b + 1) g, ← sh_Q r, show b + 3 + 1 = b + 1 + 3 by omega, show b + 1 + 3 + szS s = b + 1 + szS s + 3 by omega, show g + 1 + gcS s = g + gcS s + 1 by omega]
    have e := sx_hd (b + 1) s
    have e2 := sx_nat (b + 1 + szS s)
    unfold sh
    dsimp only
    rw [if_neg (by decide), e, e2]
end
def parC (c : Cs) : Cs := .one (.cons (.grp c 0) .nil)
def upN : List ND := [⟨3, 0, .empty, 0, 1, -1⟩, ⟨2, 0, .empty, 0, 2, -1⟩, ⟨4, 0, .empty, 1, 3, -1⟩]
theorem flT_par (c : Cs) : flT (parC c) = upN ++ (flT c).map sh := by
  have k := sh_Q c 1 0
  unfold flT parC
  simp only [flQ, flS, flP, hdS, List.append_nil, List.map_cons]
  rw [← k]
  rfl
theorem find_sh (a : Int) (ha : 1 ≤ a) : ∀ L : List ND, (∀ n ∈ L, n.kind = 4 ∨ n.group = 0) → (L.map sh).findIdx? (fun n => decide (n.group = a + 1)) = L.findIdx? (fun n => decide (n.group = a))
  | [], _ => rfl
  | n :: L, h => by
    have ih := find_sh a ha L (fun m hm => h m (List.mem_cons_of_mem _ hm))
    rw [List.map_cons, List.findIdx?_cons, List.findIdx?_cons, ih]
    have e : decide ((sh n).group = a + 1) = decide (n.group = a) := by
      rw [decide_eq_decide]
      unfold sh
      dsimp only
      rcases h n (List.mem_cons_self ..) with k | k
      · rw [if_pos k]; omega
      · by_cases k4 : n.kind = 4
        · rw [if_pos k4]; omega
        · rw [if_neg k4]; omega
    rw [e]
theorem plc_up {L : List ND} {a : Int} (ha : 1 ≤ a) (h : ∀ n ∈ L, n.kind = 4 ∨ n.group = 0) {p : Nat} (hp : plc L a = some p) : plc (upN ++ L.map sh) (a + 1) = some (p + 3) := by
  unfold plc at hp ⊢
  have e := find_sh a ha L h
  rw [hp] at e
  unfold upN
  simp only [List.cons_append, List.nil_append, List.findIdx?_cons]
  rw [e, decide_eq_false (by omega), decide_eq_false (by omega)]
  rfl
theorem kl_first {L : List ND} {f : Nat} {kd : Int} {nx : Nat} {k : Int} {e : Nat} (h : kl L f kd nx k = some e) : k = -1 ∨ k = (nx : Int) := by
  by_cases hk : k = -1
  · exact .inl hk
  · obtain ⟨_, _, h2, _⟩ := kl_open h hk
    exact .inr h2
theorem up_get (L : List ND) (i : Nat) (hi : i < L.length) : i + 3 < (upN ++ L.map sh).length ∧ (upN ++ L.map sh).getD (i + 3) (bare 0 .empty 0) = sh (L.getD i (bare 0 .empty 0)) := by
  refine ⟨by simp [upN]; omega, ?_⟩
  rw [List.getD_eq_getElem?_getD, List.getElem?_append_right (by simp [upN])]
  have e : i + 3 - upN.length = i := by simp [upN]
  rw [e, List.getElem?_map, List.getD_eq_getElem?_getD, List.getElem?_eq_getElem hi]
  rfl
theorem snd_sh {n : ND} {b : Nat} (h : sndB n = true) (hf : n.first = -1 ∨ n.first = (b : Int)) : sndB (sh n) = true := by
  have e1 : (sh n).kind = n.kind := rfl
  have e2 : (sh n).times = n.times := rfl
  have e3 : (sh n).set = n.set := rfl
  have e4 : (sh n).first = sx n.first := rfl
  have e5 : (sh n).next = sx n.next := rfl
  have e6 : (sh n).group = if n.kind = 4 then n.group + 1 else n.group := rfl
  have ef : sx n.first = -1 ↔ n.first = -1 := by
    unfold sx
    split <;> omega
  unfold sndB at h ⊢
  rw [e1, e2, e3, e4, e5, e6]
  by_cases k1 : n.kind = 1
  · rw [if_pos k1] at h ⊢
    rw [if_neg (by omega)]
    simpa [ef] using h
  · rw [if_neg k1] at h ⊢
    by_cases k2 : n.kind = 2
    · rw [if_pos k2] at h ⊢
      rw [if_neg (by omega)]
      exact h
    · rw [if_neg k2] at h ⊢
      by_cases k3 : n.kind = 3
      · rw [if_pos k3] at h ⊢
        rw [if_neg (by omega)]
        simp at h
        have hn : sx (-1) = -1 := rfl
        simp [ef, hn, h]
      · rw [if_neg k3] at h ⊢
        by_cases k4 : n.kind = 4
        · rw [if_pos k4] at h ⊢
          simpa [ef] using h
        · rw [if_neg k4] at h
          cases h
theorem kl_sh {L : List ND} : ∀ (f : Nat) (kd : Int) (nx : Nat) (k : Int) (e : Nat), kl L f kd nx k = some e → kl (upN ++ L.map sh) f kd (nx + 3) (sx k) = some (e + 3)
  | f, kd, nx, k, e, h => by
    by_cases hk : k = -1
    · subst hk
      rw [kl_end] at h
      injection h with h
      subst h
      exact kl_end _ _ _ _
    · cases f with
      | zero => unfold kl at h; rw [if_neg hk] at h; cases h
      | succ f =>
        unfold kl at h
        rw [if_neg hk] at h
        split at h
        · rename_i hlt
          split at h
          · rename_i hh
            obtain ⟨hkn, hm, hs⟩ := hh
            split at h
            · cases h
            · rename_i k2 hk2
              have i1 := kl_sh f _ _ _ _ hk2
              have i2 := kl_sh f _ _ _ _ h
              obtain ⟨u1, u2⟩ := up_get L nx hlt
              have hg : L.getD nx (bare 0 .empty 0) = L[nx] := by rw [List.getD_eq_getElem?_getD, List.getElem?_eq_getElem hlt]; rfl
              rw [hg] at u2
              rw [hkn, sx_nat]
              refine kl_step u1 u2 hm ?_ ?_ i2
              · rcases kl_first hk2 with k | k
                · exact snd_sh (b := 0) hs (.inl k)
                · exact snd_sh hs (.inr k)
              · rw [show nx + 3 + 1 = nx + 1 + 3 by omega]
                exact i1
          · cases h
        · cases h
theorem beh_sh {L : List ND} {f p e : Nat} (h : beh L f p = some e) : beh (upN ++ L.map sh) f (p + 3) = some (e + 3) := by
  have hs := beh_snd h
  obtain ⟨h1, h2, _, _⟩ := beh_open h
  have i := kl_sh f _ _ _ _ h2
  obtain ⟨u1, u2⟩ := up_get L p h1
  have ug : (upN ++ L.map sh)[p + 3] = sh (L.getD p (bare 0 .empty 0)) := by
    rw [List.getD_eq_getElem?_getD, List.getElem?_eq_getElem u1] at u2
    exact u2
  unfold beh
  rw [dif_pos u1, ug]
  have hs2 : sndB (sh (L.getD p (bare 0 .empty 0))) = true := by
    rcases kl_first h2 with k | k
    · exact snd_sh (b := 0) hs (.inl k)
    · exact snd_sh hs (.inr k)
  rw [if_pos hs2, show p + 3 + 1 = p + 1 + 3 by omega]
  exact i
theorem grp_up {L : List ND} {g a : Int} (h : chkR L g = 0) (ha : 1 ≤ a) {p k : Nat} (hg : GrpAt L a p k) : GrpAt (upN ++ L.map sh) (a + 1) (p + 3) (k + 3) := by
  have hk : ∀ n ∈ L, n.kind = 4 ∨ n.group = 0 := by
    intro n hn
    obtain ⟨i, hi, rfl⟩ := List.mem_iff_getElem.1 hn
    have := snd_group (tree_snd h i hi)
    rwa [List.getD_eq_getElem?_getD, List.getElem?_eq_getElem hi] at this
  refine ⟨plc_up ha hk hg.pl, beh_up (by simp) (beh_sh hg.be), by have := hg.lt; omega, fun _ => ?_⟩
  rw [(up_get L p (plc_is hg.pl).1).2]
  exact hg.kd ha
theorem hd_up {L : List ND} {g a b : Int} (h : chkR L g = 0) (a0 : 1 ≤ a) (a1 : a ≤ g) (b0 : 1 ≤ b) (b1 : b ≤ g) : hdB (upN ++ L.map sh) (a + 1) (b + 1) = hdB L a b := by
  obtain ⟨p, k, ha⟩ := grp_at h (by omega) a1
  obtain ⟨q, l, hb⟩ := grp_at h (by omega) b1
  have i1 := hd_iff ha hb
  have i2 := hd_iff (grp_up h a0 ha) (grp_up h b0 hb)
  rw [Bool.eq_iff_iff, i1, i2]
  omega
/-- A pattern in parentheses, without ^ and $. -/
theorem par_up {t : List UInt8} (h : (parP t).2.1 = 0) (hl : t.length ≤ 62) (hb : (parP t).1.b = false) (he : (parP t).1.en = false) (h9 : (parP t).1.g ≠ 9) :
    parP ([40] ++ t ++ [41]) = (⟨upN ++ (parP t).1.L.map sh, false, false, (parP t).1.g + 1⟩, 0, 0) := by
  obtain ⟨_, bb, en, c, x, ht, g1, g2, e⟩ := par_s h
  rw [e] at hb he h9 ⊢
  dsimp only at hb he h9 ⊢
  subst hb he
  have ht : t = x := by rw [ht]; simp
  subst ht
  have gg : GQ (parC c) ([40] ++ t ++ [41]) := by
    refine ⟨[40] ++ t ++ [41], [], ⟨t, g1, .inl rfl, by simp [signL]⟩, rfl, by simp⟩
  have k := par_c false false gg (by show gcQ c + 1 + 0 ≤ 9; omega) ([40] ++ t ++ [41]) (by simp) (by simp; omega)
  rw [k, flT_par]
  rfl
theorem hd_first {t : List UInt8} (h : (parP t).2.1 = 0) {b : Int} (b0 : 1 ≤ b) (b1 : b ≤ (parP t).1.g) : hdB (upN ++ (parP t).1.L.map sh) 1 (b + 1) = true := by
  have hc := par_chk h
  obtain ⟨_, bb, en, c, x, ht, g1, g2, e⟩ := par_s h
  rw [e] at b1 hc ⊢
  dsimp only at b1 hc ⊢
  obtain ⟨q, l, hb⟩ := grp_at hc (by omega) b1
  have hq := plc_is hb.pl
  have hu := grp_up hc b0 hb
  have hw := (wf_Q c x g1).1
  have hfl := flT_par c
  have hlen : (upN ++ (flT c).map sh).length = szQ c + 4 := by rw [List.length_append, List.length_map, flT_len]; simp [upN]; omega
  have hA : At (upN ++ (flT c).map sh) 2 (flP 2 0 (-1) (.grp c 0)) := by
    rw [← hfl]
    have a1 := (At.all (flT (parC c)))
    unfold flT parC at a1
    have a2 := a1.cons.2.2
    unfold flQ at a2
    have a3 := a2.cons.2.2
    unfold flS at a3
    exact a3.app.1
  obtain ⟨n, h1, h2, _, h4, _, h6⟩ := kl_P _ (.grp c 0) 2 0 (-1) (szQ c + 4) hA ⟨hw, .inl rfl⟩ (by show szQ c + 2 ≤ _; omega)
  have hbe : beh (upN ++ (flT c).map sh) (upN ++ (flT c).map sh).length 2 = some (szQ c + 4) := by
    have ug : (upN ++ (flT c).map sh)[2] = n := by
      rw [List.getD_eq_getElem?_getD, List.getElem?_eq_getElem h2] at h1
      exact h1
    unfold beh
    rw [dif_pos h2, ug, if_pos h4, hlen, h6]
    show some (2 + (szQ c + 2)) = _
    congr 1
    omega
  have h0 : GrpAt (upN ++ (flT c).map sh) 1 2 (szQ c + 4) := ⟨rfl, hbe, by omega, fun _ => rfl⟩
  refine (hd_iff h0 hu).2 ⟨by omega, ?_⟩
  have := hq.1
  rw [flT_len] at this
  omega
end Go.Proofs.YtdnbnigebejgjaaDoor
