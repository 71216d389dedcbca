/-
  The grammar of sets in patterns, and that the reader of patterns reads just what it says.
  The grammar of patterns, and that what the parser reads without a fault is a pattern of it, with the nodes of its tree.
  What is a pattern of the grammar is read, as the tree that the grammar says.
-/
import Derived.Test.YtdnbnigebejgjaaGreatDoorHJP1
import Derived.Test.YtdnbnigebejgjaaGreatDoorHA1
namespace Go.Proofs.YtdnbnigebejgjaaGreatDoor
open Go.RowKit
/-- A byte of a class, as it is written. -/
def GCb (x : List UInt8) (b : UInt8) : Prop := (x = [b] ∧ b ≠ 93 ∧ b ≠ 45 ∧ b ≠ 92) ∨ (x = [92, b] ∧ b ≠ 100 ∧ b ≠ 119)
def GEl (x : List UInt8) (v : WSet) : Prop :=
  (x = [92, 100] ∧ v = setW digitsL) ∨ (x = [92, 119] ∧ v = setW wordsL) ∨ (∃ b, GCb x b ∧ v = ofW b) ∨ (∃ y z lo hi, x = y ++ 45 :: z ∧ GCb y lo ∧ GCb z hi ∧ lo.toNat ≤ hi.toNat ∧ v = spanW lo hi)
inductive GEls : List UInt8 → WSet → WSet → Prop where
  | nil (w : WSet) : GEls [] w w
  | cons (x y : List UInt8) (w v w' : WSet) : GEl x v → GEls y (w.or v) w' → GEls (x ++ y) w w'
def GSet (x : List UInt8) (w : WSet) : Prop :=
  (x = [92, 100] ∧ w = setW digitsL) ∨ (x = [92, 119] ∧ w = setW wordsL) ∨ (x = [46] ∧ w = WSet.empty.not) ∨
  (∃ o y z v v', x = 91 :: ((if o = true then [94] else []) ++ y ++ z ++ [93]) ∧ GEl y v ∧ (o = false → y.head? ≠ some 94) ∧ GEls z v v' ∧ w = clsW o v' ∧ w ≠ .empty) ∨
  (∃ b, x = [92, b] ∧ b ≠ 100 ∧ b ≠ 119 ∧ w = ofW b) ∨
  (∃ b, x = [b] ∧ behindL.contains b = false ∧ b ≠ 40 ∧ b ≠ 46 ∧ b ≠ 91 ∧ b ≠ 92 ∧ w = ofW b)
def adv (s : RS) (n : Nat) : RS := ⟨s.k + n, s.e, s.a⟩
theorem adv_adv (s : RS) (m n : Nat) : adv (adv s m) n = adv s (m + n) := by unfold adv; simp [Nat.add_assoc]
theorem rest_adv {t : List UInt8} {s : RS} {x z : List UInt8} (h : restR t s = x ++ z) : restR t (adv s x.length) = z := by
  unfold restR adv at *
  dsimp only
  split at h
  · rename_i he
    rw [if_pos he, ← List.drop_drop, h, List.drop_left]
  · rename_i he
    rw [if_neg he]
    have := congrArg List.length h
    simp at this
    exact (List.eq_nil_of_length_eq_zero (by omega)).symm
theorem rest_e {t : List UInt8} {s : RS} {c : UInt8} {z : List UInt8} (h : restR t s = c :: z) : s.e = 0 := by
  unfold restR at h
  split at h
  · assumption
  · cases h
theorem take_yes {t : List UInt8} {s : RS} {x z : List UInt8} (h : restR t s = x ++ z) : takeB t s x = true ∧ takeR t s x = adv s x.length := by
  have h1 : takeB t s x = true := by
    unfold takeB Lib.hasPrefix
    rw [h, List.isPrefixOf_iff_prefix]
    exact ⟨z, rfl⟩
  exact ⟨h1, by unfold takeR; rw [if_pos h1]; rfl⟩
theorem take_no {t : List UInt8} {s : RS} {x : List UInt8} (h : takeB t s x = false) : takeR t s x = s := by
  unfold takeR
  rw [if_neg (by rw [h]; decide)]
theorem take_rest {t : List UInt8} {s : RS} {x : List UInt8} (h : takeB t s x = true) : ∃ z, restR t s = x ++ z := by
  unfold takeB Lib.hasPrefix at h
  rw [List.isPrefixOf_iff_prefix] at h
  obtain ⟨z, h⟩ := h
  exact ⟨z, h.symm⟩
/-- From a state to another one, without a fault, over some bytes. -/
def Rd (t : List UInt8) (s : RS) (x : List UInt8) (s' : RS) : Prop := s.e = 0 ∧ s' = adv s x.length ∧ ∃ z, restR t s = x ++ z
theorem Rd.rest {t : List UInt8} {s s' : RS} {x : List UInt8} (h : Rd t s x s') : restR t s = x ++ restR t s' := by
  obtain ⟨_, rfl, z, h⟩ := h
  rw [rest_adv h, h]
theorem Rd.e {t : List UInt8} {s s' : RS} {x : List UInt8} (h : Rd t s x s') : s'.e = 0 := by
  obtain ⟨h, rfl, _⟩ := h
  exact h
theorem Rd.nil {t : List UInt8} {s : RS} (h : s.e = 0) : Rd t s [] s := ⟨h, rfl, _, rfl⟩
theorem Rd.trans {t : List UInt8} {s s1 s2 : RS} {x y : List UInt8} (h : Rd t s x s1) (h' : Rd t s1 y s2) : Rd t s (x ++ y) s2 := by
  have r1 := h.rest
  have r2 := h'.rest
  obtain ⟨e, rfl, _⟩ := h
  obtain ⟨_, rfl, _⟩ := h'
  refine ⟨e, ?_, restR t (adv (adv s x.length) y.length), by rw [r1, List.append_assoc, ← r2]⟩
  rw [adv_adv, List.length_append]
theorem take_rd {t : List UInt8} {s : RS} {x : List UInt8} (h : takeB t s x = true) (hx : x ≠ []) : Rd t s x (takeR t s x) := by
  obtain ⟨z, hz⟩ := take_rest h
  obtain ⟨c, y, rfl⟩ := List.exists_cons_of_ne_nil hx
  exact ⟨rest_e (by rw [hz]; rfl), (take_yes hz).2, z, hz⟩
theorem fail_e {s : RS} {e a : Nat} (he : e ≠ 0) : (failR s e a).e ≠ 0 := by
  unfold failR
  split
  · exact he
  · assumption
theorem sees_rest {t : List UInt8} {s : RS} {o : List UInt8} (h : seesB t s o = true) : ∃ c z, restR t s = c :: z ∧ o.contains c = false := by
  unfold seesB at h
  cases hr : restR t s with
  | nil => rw [hr] at h; cases h
  | cons c z =>
    rw [hr] at h
    refine ⟨c, z, rfl, ?_⟩
    have h : (!(o.contains c)) = true := h
    cases hc : o.contains c with
    | false => rfl
    | true => rw [hc] at h; cases h
theorem sees_of {t : List UInt8} {s : RS} {o : List UInt8} {c : UInt8} {z : List UInt8} (h : restR t s = c :: z) (hc : o.contains c = false) : seesB t s o = true := by
  unfold seesB
  rw [h]
  show (!(o.contains c)) = true
  rw [hc]; rfl
theorem getD_rest {t : List UInt8} {s : RS} {c : UInt8} {z : List UInt8} (h : restR t s = c :: z) : t.getD s.k 0 = c := by
  have he := rest_e h
  unfold restR at h
  rw [if_pos he] at h
  have := congrArg (·[0]?) h
  simp at this
  rw [List.getD_eq_getElem?_getD, this]; rfl
theorem one_c {t : List UInt8} {s : RS} {o : List UInt8} {c : UInt8} {z : List UInt8} (h : restR t s = c :: z) (hc : o.contains c = false) : oneV t s o = c ∧ oneR t s o = adv s 1 := by
  have hs := sees_of h hc
  unfold oneV oneR
  rw [if_pos hs, if_pos hs]
  exact ⟨getD_rest h, rfl⟩
theorem one_s {t : List UInt8} {s : RS} {o : List UInt8} (h : (oneR t s o).e = 0) : Rd t s [oneV t s o] (oneR t s o) ∧ o.contains (oneV t s o) = false := by
  by_cases hs : seesB t s o = true
  · obtain ⟨c, z, hr, hc⟩ := sees_rest hs
    obtain ⟨h1, h2⟩ := one_c hr hc
    rw [h1, h2]
    exact ⟨⟨rest_e hr, rfl, z, hr⟩, hc⟩
  · unfold oneR at h
    rw [if_neg hs] at h
    exact absurd h (fail_e (by decide))
theorem cb_c {t : List UInt8} {s : RS} {x z : List UInt8} {b : UInt8} (hg : GCb x b) (h : restR t s = x ++ z) : cbV t s = b ∧ cbR t s = adv s x.length := by
  rcases hg with ⟨rfl, h1, h2, h3⟩ | ⟨rfl, h1, h2⟩
  · have hn : takeB t s [92] = false := by
      unfold takeB Lib.hasPrefix
      rw [h]
      have : (92 == b) = false := by simpa using Ne.symm h3
      simp [List.isPrefixOf, this]
    unfold cbV cbR
    rw [if_neg (by rw [hn]; decide), if_neg (by rw [hn]; decide)]
    exact one_c h (by simp; exact ⟨h1, h2⟩)
  · obtain ⟨k1, k2⟩ := take_yes (x := [92]) (z := b :: z) h
    have hr := rest_adv (x := [92]) (z := b :: z) h
    unfold cbV cbR
    rw [if_pos k1, if_pos k1, k2]
    obtain ⟨j1, j2⟩ := one_c (o := [100, 119]) hr (by simp; exact ⟨h1, h2⟩)
    exact ⟨j1, by rw [j2, adv_adv]; rfl⟩
theorem cb_s {t : List UInt8} {s : RS} (h : (cbR t s).e = 0) : ∃ x, Rd t s x (cbR t s) ∧ GCb x (cbV t s) := by
  by_cases hb : takeB t s [92] = true
  · unfold cbR at h ⊢
    unfold cbV
    rw [if_pos hb] at h ⊢
    rw [if_pos hb]
    have h1 := take_rd hb (by decide)
    obtain ⟨h2, h3⟩ := one_s h
    refine ⟨_, h1.trans h2, .inr ⟨rfl, ?_⟩⟩
    simpa using h3
  · unfold cbR at h ⊢
    unfold cbV
    rw [if_neg hb] at h ⊢
    rw [if_neg hb]
    obtain ⟨h2, h3⟩ := one_s h
    refine ⟨_, h2, .inl ⟨rfl, ?_⟩⟩
    simp at h3
    refine ⟨h3.1, h3.2, fun hc => hb ?_⟩
    obtain ⟨z, hz⟩ := h2.2.2
    rw [hc] at hz
    exact (take_yes hz).1
theorem gnamed_no {t : List UInt8} {s : RS} (h1 : takeB t s [92, 100] = false) (h2 : takeB t s [92, 119] = false) : namedV t s = (.empty, false) := by
  unfold namedV
  rw [if_neg (by rw [h1]; decide), if_neg (by rw [h2]; decide)]
theorem named_s {t : List UInt8} {s : RS} (h : (namedV t s).2 = true) : ∃ x, Rd t s x (namedR t s) ∧ ((x = [92, 100] ∧ (namedV t s).1 = setW digitsL) ∨ (x = [92, 119] ∧ (namedV t s).1 = setW wordsL)) := by
  by_cases h1 : takeB t s [92, 100] = true
  · unfold namedR namedV
    rw [if_pos h1, if_pos h1]
    exact ⟨_, take_rd h1 (by decide), .inl ⟨rfl, rfl⟩⟩
  · by_cases h2 : takeB t s [92, 119] = true
    · unfold namedR namedV
      rw [if_neg h1, if_neg h1, if_pos h2]
      exact ⟨_, take_rd h2 (by decide), .inr ⟨rfl, rfl⟩⟩
    · rw [gnamed_no (by simpa using h1) (by simpa using h2)] at h
      cases h
theorem named_false {t : List UInt8} {s : RS} (h : ¬ (namedV t s).2 = true) : takeB t s [92, 100] = false ∧ takeB t s [92, 119] = false := by
  unfold namedV at h
  by_cases h1 : takeB t s [92, 100] = true
  · rw [if_pos h1] at h; exact absurd rfl h
  · by_cases h2 : takeB t s [92, 119] = true
    · rw [if_neg h1, if_pos h2] at h; exact absurd rfl h
    · exact ⟨by simpa using h1, by simpa using h2⟩
theorem named_d {t : List UInt8} {s : RS} {z : List UInt8} (h : restR t s = [92, 100] ++ z) : namedV t s = (setW digitsL, true) ∧ namedR t s = adv s 2 := by
  obtain ⟨h1, h2⟩ := take_yes h
  unfold namedV namedR
  rw [if_pos h1, if_pos h1, h2]
  exact ⟨rfl, rfl⟩
theorem named_w {t : List UInt8} {s : RS} {z : List UInt8} (h : restR t s = [92, 119] ++ z) : namedV t s = (setW wordsL, true) ∧ namedR t s = adv s 2 := by
  obtain ⟨h1, h2⟩ := take_yes h
  have h0 : takeB t s [92, 100] = false := by unfold takeB Lib.hasPrefix; rw [h]; simp [List.isPrefixOf]
  constructor
  · unfold namedV
    rw [if_neg (by rw [h0]; decide), if_pos h1]
  · unfold namedR
    rw [if_neg (by rw [h0]; decide), h2]
    rfl
theorem named_cb {t : List UInt8} {s : RS} {x z : List UInt8} {b : UInt8} (hg : GCb x b) (h : restR t s = x ++ z) : namedV t s = (.empty, false) := by
  apply gnamed_no
  · unfold takeB Lib.hasPrefix
    rw [h]
    rcases hg with ⟨rfl, _, _, h3⟩ | ⟨rfl, h1, h2⟩
    · have : (92 == b) = false := by simpa using Ne.symm h3
      simp [List.isPrefixOf, this]
    · have : (100 == b) = false := by simpa using Ne.symm h1
      simp [List.isPrefixOf, this]
  · unfold takeB Lib.hasPrefix
    rw [h]
    rcases hg with ⟨rfl, _, _, h3⟩ | ⟨rfl, h1, h2⟩
    · have : (92 == b) = false := by simpa using Ne.symm h3
      simp [List.isPrefixOf, this]
    · have : (119 == b) = false := by simpa using Ne.symm h2
      simp [List.isPrefixOf, this]
theorem take_one_no {t : List UInt8} {s : RS} {c : UInt8} (h : (restR t s).head? ≠ some c) : takeB t s [c] = false := by
  unfold takeB Lib.hasPrefix
  cases hr : restR t s with
  | nil => rfl
  | cons d z =>
    rw [hr] at h
    have : (c == d) = false := by simpa using fun e => h (by rw [e]; rfl)
    simp [List.isPrefixOf, this]
theorem head_no {t : List UInt8} {s : RS} {c : UInt8} (h : takeB t s [c] = false) : (restR t s).head? ≠ some c := by
  intro hc
  cases hr : restR t s with
  | nil => rw [hr] at hc; cases hc
  | cons d z =>
    rw [hr] at hc
    injection hc with hc
    subst hc
    rw [(take_yes (x := [d]) (z := z) hr).1] at h
    cases h
theorem el_c {t : List UInt8} {s : RS} {x z : List UInt8} {v : WSet} (hg : GEl x v) (h : restR t s = x ++ z) (hz : z.head? ≠ some 45) : elV t s = v ∧ elR t s = adv s x.length := by
  rcases hg with ⟨rfl, rfl⟩ | ⟨rfl, rfl⟩ | ⟨b, hg, rfl⟩ | ⟨y, y', lo, hi, rfl, hlo, hhi, hle, rfl⟩
  · obtain ⟨h1, h2⟩ := named_d h
    unfold elV elR
    rw [h1, if_pos rfl, if_pos rfl, h2]
    exact ⟨rfl, rfl⟩
  · obtain ⟨h1, h2⟩ := named_w h
    unfold elV elR
    rw [h1, if_pos rfl, if_pos rfl, h2]
    exact ⟨rfl, rfl⟩
  · have h1 := named_cb hg h
    obtain ⟨h2, h3⟩ := cb_c hg h
    have h4 : takeB t (adv s x.length) [45] = false := take_one_no (by rw [rest_adv h]; exact hz)
    constructor
    · unfold elV
      rw [h1, if_neg (by simp), h3, h4, if_neg (by simp), h2]
    · unfold elR
      rw [h1, if_neg (by simp), h3, h4, if_neg (by simp)]
  · rw [List.append_assoc, List.cons_append] at h
    have h1 := named_cb hlo h
    obtain ⟨h2, h3⟩ := cb_c hlo h
    have r1 := rest_adv h
    obtain ⟨h4, h5⟩ := take_yes (x := [45]) (z := y' ++ z) r1
    have r2 := rest_adv (x := [45]) (z := y' ++ z) r1
    obtain ⟨h6, h7⟩ := cb_c hhi r2
    constructor
    · unfold elV
      rw [h1, if_neg (by simp), h3, h4, if_pos rfl, h5, h2, h6]
    · unfold elR
      rw [h1, if_neg (by simp), h3, h4, if_pos rfl, h5, h2, h6, h7, if_pos hle, adv_adv, adv_adv]
      congr 1
      simp
      omega
theorem el_s {t : List UInt8} {s : RS} (h : (elR t s).e = 0) : ∃ x, Rd t s x (elR t s) ∧ GEl x (elV t s) := by
  by_cases hn : (namedV t s).2 = true
  · obtain ⟨x, h1, h2⟩ := named_s hn
    unfold elR elV
    rw [if_pos hn, if_pos hn]
    refine ⟨x, h1, ?_⟩
    rcases h2 with ⟨a, b⟩ | ⟨a, b⟩
    · exact .inl ⟨a, b⟩
    · exact .inr (.inl ⟨a, b⟩)
  · unfold elR at h ⊢
    unfold elV
    rw [if_neg hn] at h ⊢
    rw [if_neg hn]
    by_cases ht : takeB t (cbR t s) [45] = true
    · rw [if_pos ht] at h ⊢
      rw [if_pos ht]
      have h2 := take_rd ht (by decide)
      obtain ⟨x, h1, g1⟩ := cb_s h2.1
      split at h
      · rename_i hle
        rw [if_pos hle]
        obtain ⟨y, h3, g3⟩ := cb_s h
        refine ⟨x ++ ([45] ++ y), h1.trans (h2.trans h3), .inr (.inr (.inr ⟨x, y, _, _, rfl, g1, g3, hle, rfl⟩))⟩
      · exact absurd h (fail_e (by decide))
    · rw [if_neg ht] at h ⊢
      rw [if_neg ht]
      obtain ⟨x, h1, g1⟩ := cb_s h
      exact ⟨x, h1, .inr (.inr (.inl ⟨_, g1, rfl⟩))⟩
theorem cb_head {x : List UInt8} {b : UInt8} (hg : GCb x b) : ∃ c y, x = c :: y ∧ c ≠ 45 ∧ c ≠ 93 := by
  rcases hg with ⟨rfl, h1, h2, h3⟩ | ⟨rfl, h1, h2⟩
  · exact ⟨_, _, rfl, h2, h1⟩
  · exact ⟨_, _, rfl, by decide, by decide⟩
theorem el_head {x : List UInt8} {v : WSet} (hg : GEl x v) : ∃ c y, x = c :: y ∧ c ≠ 45 ∧ c ≠ 93 := by
  rcases hg with ⟨rfl, rfl⟩ | ⟨rfl, rfl⟩ | ⟨b, hg, rfl⟩ | ⟨y, z, lo, hi, rfl, hlo, _⟩
  · exact ⟨_, _, rfl, by decide, by decide⟩
  · exact ⟨_, _, rfl, by decide, by decide⟩
  · exact cb_head hg
  · obtain ⟨c, y', rfl, h⟩ := cb_head hlo
    exact ⟨c, _, rfl, h⟩
theorem els_c {t : List UInt8} {x : List UInt8} {w w' : WSet} (hg : GEls x w w') : ∀ (s : RS) (z : List UInt8) (n : Nat), restR t s = x ++ 93 :: z → x.length ≤ n → clsL t n s w = (w', adv s x.length) := by
  induction hg with
  | nil w =>
    intro s z n h _
    have hs : seesB t s [93] = false := by unfold seesB; rw [h]; rfl
    cases n with
    | zero => rfl
    | succ n => unfold clsL; rw [if_neg (by rw [hs]; decide)]; rfl
  | cons x y w v w' h1 h2 ih =>
    intro s z n h hn
    obtain ⟨c, x', rfl, hc1, hc2⟩ := el_head h1
    rw [List.length_append, List.length_cons] at hn
    obtain ⟨n, rfl⟩ : ∃ m, n = m + 1 := ⟨n - 1, by omega⟩
    have hs : seesB t s [93] = true := sees_of (c := c) (z := x' ++ y ++ 93 :: z) (by rw [h]; rfl) (by simpa using hc2)
    rw [List.append_assoc] at h
    have hh : (y ++ 93 :: z).head? ≠ some 45 := by
      cases h2 with
      | nil => simp
      | cons y1 y2 _ _ _ g1 _ =>
        obtain ⟨d, _, rfl, hd, _⟩ := el_head g1
        simpa using hd
    obtain ⟨k1, k2⟩ := el_c h1 h hh
    unfold clsL
    rw [if_pos hs, k1, k2, ih _ z n (rest_adv h) (by omega), adv_adv, List.length_append]
theorem rest_len (t : List UInt8) (s : RS) : (restR t s).length ≤ t.length := by
  unfold restR
  split
  · simp
  · simp
theorem els_s {t : List UInt8} : ∀ (n : Nat) (s : RS) (w : WSet), (restR t s).length ≤ n → (clsL t n s w).2.e = 0 → ∃ x, Rd t s x (clsL t n s w).2 ∧ GEls x w (clsL t n s w).1
  | 0, s, w, _, h => ⟨[], Rd.nil h, .nil w⟩
  | n + 1, s, w, hn, h => by
    by_cases hs : seesB t s [93] = true
    · unfold clsL at h ⊢
      rw [if_pos hs] at h ⊢
      have hE : (elR t s).e = 0 := by
        by_cases he : (elR t s).e = 0
        · exact he
        · exfalso
          have key : ∀ (m : Nat) (q : RS) (v : WSet), q.e ≠ 0 → (clsL t m q v).2.e ≠ 0 := by
            intro m
            cases m with
            | zero => exact fun q v hq => hq
            | succ m =>
              intro q v hq
              unfold clsL
              have : seesB t q [93] = false := by unfold seesB restR; rw [if_neg hq]; rfl
              rw [if_neg (by rw [this]; decide)]
              exact hq
          exact key _ _ _ he h
      obtain ⟨x, h1, g1⟩ := el_s hE
      obtain ⟨c, x', rfl, _⟩ := el_head g1
      have hr := h1.rest
      rw [hr] at hn
      simp at hn
      obtain ⟨y, h2, g2⟩ := els_s n (elR t s) (w.or (elV t s)) (by omega) h
      exact ⟨_, h1.trans h2, .cons _ _ _ _ _ g1 g2⟩
    · unfold clsL at h ⊢
      rw [if_neg hs] at h ⊢
      exact ⟨[], Rd.nil h, .nil w⟩
theorem need_s {t : List UInt8} {s : RS} {x : List UInt8} (hx : x ≠ []) (h : (needR t s x).e = 0) : Rd t s x (needR t s x) := by
  unfold needR at h ⊢
  by_cases hb : takeB t s x = true
  · rw [if_pos hb]
    exact take_rd hb hx
  · rw [if_neg hb] at h
    exact absurd h (fail_e (by decide))
theorem need_c {t : List UInt8} {s : RS} {x z : List UInt8} (h : restR t s = x ++ z) : needR t s x = adv s x.length := by
  obtain ⟨h1, h2⟩ := take_yes h
  unfold needR
  rw [if_pos h1, h2]
theorem end_s {t : List UInt8} {s : RS} {w : WSet} (h : (clsEnd t w s).e = 0) : w ≠ .empty ∧ Rd t s [93] (clsEnd t w s) := by
  unfold clsEnd at h ⊢
  have hn := need_s (by decide) h
  split at hn
  · exact absurd hn.1 (fail_e (by decide))
  · rename_i hw
    rw [if_neg hw]
    exact ⟨hw, hn⟩
theorem cls_s {t : List UInt8} {s : RS} (h : (clsR t s).e = 0) : ∃ y z v v', Rd t s ((if takeB t s [94] = true then [94] else []) ++ y ++ z ++ [93]) (clsR t s) ∧ GEl y v ∧ (takeB t s [94] = false → y.head? ≠ some 94) ∧ GEls z v v' ∧ clsV t s = clsW (takeB t s [94]) v' ∧ clsV t s ≠ .empty := by
  unfold clsR at h ⊢
  obtain ⟨hw, h3⟩ := end_s h
  have h2e := h3.1
  unfold clsIn at h2e h3 ⊢
  obtain ⟨z, h2, g2⟩ := els_s t.length _ _ (rest_len t _) h2e
  obtain ⟨y, h1, g1⟩ := el_s h2.1
  have h0 : Rd t s (if takeB t s [94] = true then [94] else []) (takeR t s [94]) := by
    by_cases hb : takeB t s [94] = true
    · rw [if_pos hb]; exact take_rd hb (by decide)
    · rw [if_neg hb, take_no (by simpa using hb)]
      refine Rd.nil ?_
      have := h1.1
      rwa [take_no (by simpa using hb)] at this
  refine ⟨y, z, _, _, ((h0.trans h1).trans h2).trans h3, g1, ?_, g2, rfl, hw⟩
  intro hb
  have hh := head_no hb
  have r0 := h0.rest
  rw [if_neg (by rw [hb]; decide), List.nil_append] at r0
  rw [r0, h1.rest] at hh
  obtain ⟨c, y', rfl, _⟩ := el_head g1
  simpa using hh
theorem set_s {t : List UInt8} {s : RS} (h : (setR t s).e = 0) (hs : seesB t s behindL = true) (h40 : Lib.hasPrefix (restR t s) [40] = false) : ∃ x, Rd t s x (setR t s) ∧ GSet x (setV t s) := by
  unfold setR at h ⊢
  unfold setV
  by_cases hn : (namedV t s).2 = true
  · rw [if_pos hn, if_pos hn]
    obtain ⟨x, h1, h2⟩ := named_s hn
    refine ⟨x, h1, ?_⟩
    rcases h2 with ⟨a, b⟩ | ⟨a, b⟩
    · exact .inl ⟨a, b⟩
    · exact .inr (.inl ⟨a, b⟩)
  rw [if_neg hn] at h ⊢
  rw [if_neg hn]
  by_cases hd : takeB t s [46] = true
  · rw [if_pos hd, if_pos hd]
    exact ⟨_, take_rd hd (by decide), .inr (.inr (.inl ⟨rfl, rfl⟩))⟩
  rw [if_neg hd] at h ⊢
  rw [if_neg hd]
  by_cases hc : takeB t s [91] = true
  · rw [if_pos hc] at h ⊢
    rw [if_pos hc]
    have h1 := take_rd hc (by decide)
    obtain ⟨y, z, v, v', h2, g1, g2, g3, g4, g5⟩ := cls_s h
    exact ⟨_, h1.trans h2, .inr (.inr (.inr (.inl ⟨_, y, z, v, v', rfl, g1, g2, g3, g4, g5⟩)))⟩
  rw [if_neg hc] at h ⊢
  rw [if_neg hc]
  obtain ⟨h2, _⟩ := one_s h
  by_cases hb : takeB t s [92] = true
  · have h1 := take_rd hb (by decide)
    refine ⟨_, h1.trans h2, .inr (.inr (.inr (.inr (.inl ⟨oneV t (takeR t s [92]) [], rfl, ?_, ?_, rfl⟩))))⟩
    · intro e
      have r := (h1.trans h2).rest
      rw [e] at r
      have := (named_false hn).1
      rw [(take_yes (x := [92, 100]) r).1] at this
      cases this
    · intro e
      have r := (h1.trans h2).rest
      rw [e] at r
      have := (named_false hn).2
      rw [(take_yes (x := [92, 119]) r).1] at this
      cases this
  · rw [take_no (by simpa using hb)] at h2 ⊢
    have r := h2.rest
    obtain ⟨c, z, hr, hcb⟩ := sees_rest hs
    have e : oneV t s [] = c := by
      rw [hr] at r
      injection r with r _
      exact r.symm
    rw [e] at h2 ⊢
    refine ⟨[c], h2, .inr (.inr (.inr (.inr (.inr ⟨c, rfl, hcb, ?_, ?_, ?_, ?_, rfl⟩))))⟩
    · rintro rfl
      rw [hr] at h40
      cases h40
    · rintro rfl; exact hd (take_yes (x := [46]) hr).1
    · rintro rfl; exact hc (take_yes (x := [91]) hr).1
    · rintro rfl; exact hb (take_yes (x := [92]) hr).1
end Go.Proofs.YtdnbnigebejgjaaGreatDoor
namespace Go.Proofs.YtdnbnigebejgjaaGreatDoor
open Go.RowKit
mutual
def GP : Pc → List UInt8 → Prop
  | .atom w tm, x => ∃ y, GSet y w ∧ tm ≤ 3 ∧ x = y ++ signL tm
  | .grp c tm, x => ∃ y, GQ c y ∧ (tm = 0 ∨ tm = 3) ∧ x = [40] ++ y ++ [41] ++ signL tm
def GS : Ps → List UInt8 → Prop
  | .nil, x => x = []
  | .cons p r, x => ∃ y z, GP p y ∧ GS r z ∧ x = y ++ z
def GQ : Cs → List UInt8 → Prop
  | .one s, x => GS s x
  | .cons s r, x => ∃ y z, GS s y ∧ GQ r z ∧ x = y ++ ([124] ++ z)
end
theorem ofW_ne (b : UInt8) : ofW b ≠ .empty := by
  intro h
  have h1 := has_add .empty b.toNat b.toNat b.toNat_lt b.toNat_lt
  unfold ofW at h
  rw [h, has_empty] at h1
  simp at h1
theorem gset_ne {x : List UInt8} {w : WSet} (h : GSet x w) : w ≠ .empty := by
  rcases h with ⟨_, rfl⟩ | ⟨_, rfl⟩ | ⟨_, rfl⟩ | ⟨_, _, _, _, _, _, _, _, _, _, h⟩ | ⟨b, _, _, _, rfl⟩ | ⟨b, _, _, _, _, _, _, rfl⟩
  · decide +kernel
  · decide +kernel
  · decide +kernel
  · exact h
  · exact ofW_ne b
  · exact ofW_ne b
theorem gset_head {x : List UInt8} {w : WSet} (h : GSet x w) : ∃ c y, x = c :: y ∧ behindL.contains c = false ∧ c ≠ 40 := by
  rcases h with ⟨rfl, _⟩ | ⟨rfl, _⟩ | ⟨rfl, _⟩ | ⟨_, _, _, _, _, rfl, _⟩ | ⟨b, rfl, _⟩ | ⟨b, rfl, h1, h2, _⟩
  · exact ⟨_, _, rfl, by decide, by decide⟩
  · exact ⟨_, _, rfl, by decide, by decide⟩
  · exact ⟨_, _, rfl, by decide, by decide⟩
  · exact ⟨_, _, rfl, by decide, by decide⟩
  · exact ⟨_, _, rfl, by decide, by decide⟩
  · exact ⟨_, _, rfl, h1, h2⟩
theorem gp_head {p : Pc} {x : List UInt8} (h : GP p x) : ∃ c y, x = c :: y ∧ behindL.contains c = false := by
  cases p with
  | atom w tm =>
    unfold GP at h
    obtain ⟨y, h, _, rfl⟩ := h
    obtain ⟨c, y', rfl, h1, _⟩ := gset_head h
    exact ⟨c, _, rfl, h1⟩
  | grp c tm =>
    unfold GP at h
    obtain ⟨y, _, _, rfl⟩ := h
    exact ⟨40, _, rfl, by decide⟩
mutual
theorem wf_P : ∀ (p : Pc) (x : List UInt8), GP p x → wfP p ∧ szP p ≤ 3 * x.length
  | .atom w tm, x, h => by
    unfold GP at h
    obtain ⟨y, h1, h2, rfl⟩ := h
    obtain ⟨c, y', rfl, _⟩ := gset_head h1
    refine ⟨⟨gset_ne h1, h2⟩, ?_⟩
    simp [szP]
    omega
  | .grp c tm, x, h => by
    unfold GP at h
    obtain ⟨y, h1, h2, rfl⟩ := h
    have k := wf_Q c y h1
    refine ⟨⟨k.1, h2⟩, ?_⟩
    simp [szP]
    omega
theorem wf_S : ∀ (s : Ps) (x : List UInt8), GS s x → wfS s ∧ szS s ≤ 3 * x.length
  | .nil, x, h => ⟨True.intro, by simp [szS]⟩
  | .cons p r, x, h => by
    unfold GS at h
    obtain ⟨y, z, h1, h2, rfl⟩ := h
    have k1 := wf_P p y h1
    have k2 := wf_S r z h2
    refine ⟨⟨k1.1, k2.1⟩, ?_⟩
    simp [szS]
    omega
theorem wf_Q : ∀ (c : Cs) (x : List UInt8), GQ c x → wfQ c ∧ szQ c ≤ 3 * x.length + 1
  | .one s, x, h => by
    unfold GQ at h
    have k := wf_S s x h
    refine ⟨k.1, ?_⟩
    simp [szQ]
    omega
  | .cons s r, x, h => by
    unfold GQ at h
    obtain ⟨y, z, h1, h2, rfl⟩ := h
    have k1 := wf_S s y h1
    have k2 := wf_Q r z h2
    refine ⟨⟨k1.1, k2.1⟩, ?_⟩
    simp [szQ]
    omega
end
/-- The nodes before they are adopted. -/
def kidsS : Nat → Ps → List Nat
  | _, .nil => []
  | b, .cons p r => b :: kidsS (b + szP p) r
def fuS : Nat → Nat → Ps → List ND
  | _, _, .nil => []
  | b, g, .cons p r => flP b g (-1) p ++ fuS (b + szP p) (g + gcP p) r
def sqB (b g : Nat) (nx : Int) (s : Ps) : List ND := ⟨2, 0, .empty, 0, hdS (b + 1) s, nx⟩ :: flS (b + 1) g s
def kidsQ : Nat → Cs → List Nat
  | b, .one _ => [b]
  | b, .cons s r => b :: kidsQ (b + 1 + szS s) r
def fuQ : Nat → Nat → Cs → List ND
  | b, g, .one s => sqB b g (-1) s
  | b, g, .cons s r => sqB b g (-1) s ++ fuQ (b + 1 + szS s) (g + gcS s) r
def chB (b g : Nat) (c : Cs) : List ND := ⟨3, 0, .empty, 0, ((b + 1 : Nat) : Int), -1⟩ :: flQ (b + 1) g c
theorem mod_at (f : ND → ND) (x : ND) (R : List ND) : ∀ A : List ND, (A ++ x :: R).modify A.length f = A ++ f x :: R
  | [] => by simp
  | a :: A => by
    have := mod_at f x R A
    simpa using this
theorem put_P (A R : List ND) (b g : Nat) (nx : Int) (p : Pc) (v : Nat) (hA : A.length = b) : putL (A ++ (flP b g nx p ++ R)) (b, true) v = A ++ (flP b g (v : Int) p ++ R) := by
  unfold putL
  dsimp only
  cases p with
  | atom w tm => rw [← hA]; exact mod_at _ _ R A
  | grp c tm => rw [← hA]; exact mod_at _ _ _ A
theorem put_B (A R : List ND) (b g : Nat) (nx : Int) (s : Ps) (v : Nat) (hA : A.length = b) : putL (A ++ (sqB b g nx s ++ R)) (b, true) v = A ++ (sqB b g (v : Int) s ++ R) := by
  unfold putL sqB
  dsimp only
  rw [← hA]
  exact mod_at _ _ _ A
theorem put_first (A R : List ND) (b : Nat) (n : ND) (v : Nat) (hA : A.length = b) : putL (A ++ n :: R) (b, false) v = A ++ { n with first := (v : Int) } :: R := by
  unfold putL
  dsimp only
  rw [← hA]
  exact mod_at _ _ _ A
theorem adS : ∀ (r : Ps) (A : List ND) (b g : Nat) (p : Pc), A.length = b →
    adoptL (A ++ (flP b g (-1) p ++ fuS (b + szP p) (g + gcP p) r)) (b, true) (kidsS (b + szP p) r) = A ++ flS b g (.cons p r)
  | .nil, A, b, g, p, hA => rfl
  | .cons q r, A, b, g, p, hA => by
    show adoptL (putL _ (b, true) (b + szP p)) (b + szP p, true) (kidsS (b + szP p + szP q) r) = _
    rw [put_P _ _ _ _ _ _ _ hA]
    have h := adS r (A ++ flP b g ((b + szP p : Nat) : Int) p) (b + szP p) (g + gcP p) q (by rw [List.length_append, flP_len, hA])
    rw [List.append_assoc] at h
    refine h.trans ?_
    rw [List.append_assoc]
    rfl
theorem adS0 (r : Ps) (A : List ND) (b g : Nat) (hA : A.length = b) :
    adoptL (A ++ bare 2 .empty 0 :: fuS (b + 1) g r) (b, false) (kidsS (b + 1) r) = A ++ sqB b g (-1) r := by
  cases r with
  | nil => rfl
  | cons p r =>
    show adoptL (putL _ (b, false) (b + 1)) (b + 1, true) (kidsS (b + 1 + szP p) r) = _
    rw [put_first _ _ _ _ _ hA]
    have h := adS r (A ++ [⟨2, 0, .empty, 0, ((b + 1 : Nat) : Int), -1⟩]) (b + 1) g p (by rw [List.length_append, hA]; rfl)
    rw [List.append_assoc, List.append_assoc] at h
    exact h
theorem adQ : ∀ (r : Cs) (A : List ND) (b g : Nat) (s : Ps), A.length = b →
    adoptL (A ++ (sqB b g (-1) s ++ fuQ (b + 1 + szS s) (g + gcS s) r)) (b, true) (kidsQ (b + 1 + szS s) r) = A ++ flQ b g (.cons s r)
  | .one s', A, b, g, s, hA => by
    show putL _ (b, true) (b + 1 + szS s) = _
    rw [put_B _ _ _ _ _ _ _ hA]
    rfl
  | .cons s' r, A, b, g, s, hA => by
    show adoptL (putL _ (b, true) (b + 1 + szS s)) (b + 1 + szS s, true) (kidsQ (b + 1 + szS s + 1 + szS s') r) = _
    rw [put_B _ _ _ _ _ _ _ hA]
    have h := adQ r (A ++ sqB b g ((b + 1 + szS s : Nat) : Int) s) (b + 1 + szS s) (g + gcS s) s' (by rw [List.length_append, hA]; unfold sqB; rw [List.length_cons, flS_len]; omega)
    rw [List.append_assoc] at h
    refine h.trans ?_
    rw [List.append_assoc]
    rfl
theorem adQ0 (c : Cs) (A : List ND) (b g : Nat) (hA : A.length = b) :
    adoptL (A ++ bare 3 .empty 0 :: fuQ (b + 1) g c) (b, false) (kidsQ (b + 1) c) = A ++ chB b g c := by
  cases c with
  | one s =>
    show putL _ (b, false) (b + 1) = _
    rw [put_first _ _ _ _ _ hA]
    rfl
  | cons s r =>
    show adoptL (putL _ (b, false) (b + 1)) (b + 1, true) (kidsQ (b + 1 + 1 + szS s) r) = _
    rw [put_first _ _ _ _ _ hA]
    have h := adQ r (A ++ [⟨3, 0, .empty, 0, ((b + 1 : Nat) : Int), -1⟩]) (b + 1) g s (by rw [List.length_append, hA]; rfl)
    rw [List.append_assoc, List.append_assoc] at h
    exact h
/-- What a reader of pieces owes. -/
def PcOK (t : List UInt8) (pc : PS → Nat × PS) (m : Nat) : Prop :=
  ∀ s : PS, (restR t s.r).length ≤ m → seesB t s.r behindL = true → s.g ≤ 9 → (pc s).2.r.e = 0 →
    ∃ p x, Rd t s.r x (pc s).2.r ∧ GP p x ∧ (pc s).1 = s.L.length ∧ (pc s).2.L = s.L ++ flP s.L.length s.g (-1) p ∧ (pc s).2.g = s.g + gcP p ∧ (pc s).2.g ≤ 9
theorem seqLoop_e {t : List UInt8} {pc : PS → Nat × PS} (n : Nat) (s : PS) (l : List Nat) (he : s.r.e ≠ 0) : seqLoop t pc n s l = (l, s) := by
  cases n with
  | zero => rfl
  | succ n =>
    unfold seqLoop
    have : seesB t s.r behindL = false := by unfold seesB restR; rw [if_neg he]; rfl
    rw [if_neg (by rw [this]; decide)]
theorem seq_s {t : List UInt8} {pc : PS → Nat × PS} {m : Nat} (hpc : PcOK t pc m) : ∀ (n : Nat) (s : PS) (l : List Nat), (restR t s.r).length ≤ n → (restR t s.r).length ≤ m → s.g ≤ 9 → (seqLoop t pc n s l).2.r.e = 0 →
    ∃ r x, Rd t s.r x (seqLoop t pc n s l).2.r ∧ GS r x ∧ (seqLoop t pc n s l).1 = l ++ kidsS s.L.length r ∧ (seqLoop t pc n s l).2.L = s.L ++ fuS s.L.length s.g r ∧ (seqLoop t pc n s l).2.g = s.g + gcS r ∧ (seqLoop t pc n s l).2.g ≤ 9
  | 0, s, l, _, _, hg, h => ⟨.nil, [], Rd.nil h, rfl, (List.append_nil _).symm, (List.append_nil _).symm, rfl, hg⟩
  | n + 1, s, l, hn, hm, hg, h => by
    by_cases hs : seesB t s.r behindL = true
    · unfold seqLoop at h ⊢
      rw [if_pos hs] at h ⊢
      have he : (pc s).2.r.e = 0 := by
        by_cases he : (pc s).2.r.e = 0
        · exact he
        · rw [seqLoop_e n _ _ he] at h
          exact h
      obtain ⟨p, x, h1, g1, e1, e2, e3, e4⟩ := hpc s hm hs hg he
      obtain ⟨c, x', rfl, _⟩ := gp_head g1
      have hr := congrArg List.length h1.rest
      rw [List.length_append, List.length_cons] at hr
      obtain ⟨r, y, h2, g2, f1, f2, f3, f4⟩ := seq_s hpc n (pc s).2 (l ++ [(pc s).1]) (by omega) (by omega) e4 h
      have el : (pc s).2.L.length = s.L.length + szP p := by rw [e2, List.length_append, flP_len]
      refine ⟨.cons p r, _, h1.trans h2, ⟨_, y, g1, g2, rfl⟩, ?_, ?_, ?_, f4⟩
      · rw [f1, e1, el, List.append_assoc]; rfl
      · rw [f2, e2, List.append_assoc, ← e2, el, e3]; rfl
      · rw [f3, e3]
        show _ = s.g + (gcP p + gcS r)
        omega
    · unfold seqLoop at h ⊢
      rw [if_neg hs] at h ⊢
      exact ⟨.nil, [], Rd.nil h, rfl, (List.append_nil _).symm, (List.append_nil _).symm, rfl, hg⟩
theorem sq_s {t : List UInt8} {pc : PS → Nat × PS} {m : Nat} (hpc : PcOK t pc m) (s : PS) (hm : (restR t s.r).length ≤ m) (hg : s.g ≤ 9) (h : (seqP t pc s).2.r.e = 0) :
    ∃ r x, Rd t s.r x (seqP t pc s).2.r ∧ GS r x ∧ (seqP t pc s).1 = s.L.length ∧ (seqP t pc s).2.L = s.L ++ sqB s.L.length s.g (-1) r ∧ (seqP t pc s).2.g = s.g + gcS r ∧ (seqP t pc s).2.g ≤ 9 := by
  obtain ⟨r, x, h1, g1, f1, f2, f3, f4⟩ := seq_s hpc t.length (addP s (bare 2 .empty 0)) [] (rest_len t _) hm hg h
  refine ⟨r, x, h1, g1, rfl, ?_, f3, f4⟩
  unfold seqP adoptP
  dsimp only
  rw [f1, f2, List.nil_append]
  have e : (addP s (bare 2 .empty 0)).L = s.L ++ [bare 2 .empty 0] := rfl
  have e2 : (addP s (bare 2 .empty 0)).g = s.g := rfl
  rw [e2, e, List.length_append, List.append_assoc]
  exact adS0 r s.L s.L.length s.g rfl
theorem cho_s {t : List UInt8} {pc : PS → Nat × PS} {m : Nat} (hpc : PcOK t pc m) : ∀ (n : Nat) (s : PS) (l : List Nat), (restR t s.r).length ≤ n → (restR t s.r).length ≤ m → s.g ≤ 9 → (choLoop t pc n (seqP t pc s).2 (l ++ [(seqP t pc s).1])).2.r.e = 0 →
    ∃ c x, Rd t s.r x (choLoop t pc n (seqP t pc s).2 (l ++ [(seqP t pc s).1])).2.r ∧ GQ c x ∧ (choLoop t pc n (seqP t pc s).2 (l ++ [(seqP t pc s).1])).1 = l ++ kidsQ s.L.length c ∧
      (choLoop t pc n (seqP t pc s).2 (l ++ [(seqP t pc s).1])).2.L = s.L ++ fuQ s.L.length s.g c ∧ (choLoop t pc n (seqP t pc s).2 (l ++ [(seqP t pc s).1])).2.g = s.g + gcQ c ∧ (choLoop t pc n (seqP t pc s).2 (l ++ [(seqP t pc s).1])).2.g ≤ 9
  | 0, s, l, _, hm, hg, h => by
    obtain ⟨r, x, h1, g1, f1, f2, f3, f4⟩ := sq_s hpc s hm hg h
    exact ⟨.one r, x, h1, g1, by show l ++ [(seqP t pc s).1] = _; rw [f1]; rfl, f2, f3, f4⟩
  | n + 1, s, l, hn, hm, hg, h => by
    by_cases hb : takeB t (seqP t pc s).2.r [124] = true
    · have h0 := take_rd hb (by decide)
      obtain ⟨r, x, h1, g1, f1, f2, f3, f4⟩ := sq_s hpc s hm hg h0.1
      unfold choLoop at h ⊢
      rw [if_pos hb] at h ⊢
      have r1 := congrArg List.length h1.rest
      have r2 := congrArg List.length h0.rest
      rw [List.length_append] at r1 r2
      rw [List.length_singleton] at r2
      obtain ⟨c, y, h2, g2, d1, d2, d3, d4⟩ := cho_s hpc n { (seqP t pc s).2 with r := takeR t (seqP t pc s).2.r [124] } (l ++ [(seqP t pc s).1]) (by show (restR t (takeR t (seqP t pc s).2.r [124])).length ≤ n; omega) (by show (restR t (takeR t (seqP t pc s).2.r [124])).length ≤ m; omega) f4 h
      have el : (seqP t pc s).2.L.length = s.L.length + 1 + szS r := by rw [f2, List.length_append]; unfold sqB; rw [List.length_cons, flS_len]; omega
      refine ⟨.cons r c, _, h1.trans (h0.trans h2), ⟨x, y, g1, g2, rfl⟩, ?_, ?_, ?_, d4⟩
      · rw [d1]
        dsimp only
        rw [f1, el, List.append_assoc]
        rfl
      · rw [d2]
        dsimp only
        rw [el, f3, f2, List.append_assoc]
        rfl
      · rw [d3]
        dsimp only
        rw [f3]
        show _ = s.g + (gcS r + gcQ c)
        omega
    · unfold choLoop at h ⊢
      rw [if_neg hb] at h ⊢
      obtain ⟨r, x, h1, g1, f1, f2, f3, f4⟩ := sq_s hpc s hm hg h
      exact ⟨.one r, x, h1, g1, by show l ++ [(seqP t pc s).1] = _; rw [f1]; rfl, f2, f3, f4⟩
theorem ch_s {t : List UInt8} {pc : PS → Nat × PS} {m : Nat} (hpc : PcOK t pc m) (s : PS) (hm : (restR t s.r).length ≤ m) (hg : s.g ≤ 9) (h : (choP t pc s).2.r.e = 0) :
    ∃ c x, Rd t s.r x (choP t pc s).2.r ∧ GQ c x ∧ (choP t pc s).1 = s.L.length ∧ (choP t pc s).2.L = s.L ++ chB s.L.length s.g c ∧ (choP t pc s).2.g = s.g + gcQ c ∧ (choP t pc s).2.g ≤ 9 := by
  obtain ⟨c, x, h1, g1, f1, f2, f3, f4⟩ := cho_s hpc t.length (addP s (bare 3 .empty 0)) [] (rest_len t _) hm hg h
  rw [List.nil_append] at h1 f1 f2 f3 f4
  refine ⟨c, x, h1, g1, rfl, ?_, f3, f4⟩
  unfold choP adoptP
  dsimp only
  rw [f1, f2, List.nil_append]
  have e : (addP s (bare 3 .empty 0)).L = s.L ++ [bare 3 .empty 0] := rfl
  have e2 : (addP s (bare 3 .empty 0)).g = s.g := rfl
  rw [e2, e, List.length_append, List.append_assoc]
  exact adQ0 c s.L s.L.length s.g rfl
theorem times_e (t : List UInt8) (s : RS) : ∀ l : List Nat, (timesR t s l).e = s.e
  | [] => rfl
  | x :: l => by
    unfold timesR
    split
    · unfold takeR; split <;> rfl
    · exact times_e t s l
theorem times_s {t : List UInt8} {s : RS} (he : s.e = 0) : ∀ l : List Nat, (∀ x ∈ l, signL x ≠ []) → Rd t s (signL (timesV t s l)) (timesR t s l) ∧ (timesV t s l = 0 ∨ timesV t s l ∈ l)
  | [], _ => ⟨Rd.nil he, .inl rfl⟩
  | x :: l, h => by
    unfold timesR timesV
    by_cases hb : takeB t s (signL x) = true
    · rw [if_pos hb, if_pos hb]
      exact ⟨take_rd hb (h x (List.mem_cons_self ..)), .inr (List.mem_cons_self ..)⟩
    · rw [if_neg hb, if_neg hb]
      obtain ⟨h1, h2⟩ := times_s he l (fun y hy => h y (List.mem_cons_of_mem _ hy))
      exact ⟨h1, h2.imp id (List.mem_cons_of_mem _)⟩
theorem atom_s {t : List UInt8} (s : PS) (hs : seesB t s.r behindL = true) (h40 : Lib.hasPrefix (restR t s.r) [40] = false) (hg : s.g ≤ 9) (h : (atomP t s).2.r.e = 0) :
    ∃ p x, Rd t s.r x (atomP t s).2.r ∧ GP p x ∧ (atomP t s).1 = s.L.length ∧ (atomP t s).2.L = s.L ++ flP s.L.length s.g (-1) p ∧ (atomP t s).2.g = s.g + gcP p ∧ (atomP t s).2.g ≤ 9 := by
  have he : (setR t s.r).e = 0 := by
    have := times_e t (setR t s.r) [1, 2, 3]
    rw [← this]
    exact h
  obtain ⟨x, h1, g1⟩ := set_s he hs h40
  obtain ⟨h2, h3⟩ := times_s (t := t) he [1, 2, 3] (by decide)
  refine ⟨.atom (setV t s.r) (timesV t (setR t s.r) [1, 2, 3]), _, h1.trans h2, ⟨x, g1, ?_, rfl⟩, rfl, ?_, rfl, hg⟩
  · rcases h3 with h3 | h3
    · omega
    · simp at h3; omega
  · show setTimes (s.L ++ [bare 1 (setV t s.r) 0]) s.L.length _ = _
    unfold setTimes
    rw [mod_at]
    rfl
theorem grp_s {t : List UInt8} {pc : PS → Nat × PS} {m : Nat} (hpc : PcOK t pc m) (s : PS) (hm : (restR t s.r).length ≤ m + 1) (hg : s.g ≤ 9) (h : (grpP t pc s).2.r.e = 0) :
    ∃ p x, Rd t s.r x (grpP t pc s).2.r ∧ GP p x ∧ (grpP t pc s).1 = s.L.length ∧ (grpP t pc s).2.L = s.L ++ flP s.L.length s.g (-1) p ∧ (grpP t pc s).2.g = s.g + gcP p ∧ (grpP t pc s).2.g ≤ 9 := by
  unfold grpP at h ⊢
  dsimp only at h ⊢
  by_cases h9 : s.g = 9
  · exfalso
    rw [if_pos h9] at h
    have he := (times_e t _ _).symm.trans h
    have k1 := (need_s (by decide) he).1
    have k2 : (choP t pc (addP ⟨needR t (failR s.r 14 s.r.k) [40], s.L, s.g + 1⟩ (bare 4 .empty ((s.g + 1 : Nat) : Int)))).2.r.e = 0 := k1
    have hb : takeB t (failR s.r 14 s.r.k) [40] = false := by
      unfold takeB restR
      rw [if_neg (fail_e (by decide))]
      rfl
    have e1 : (needR t (failR s.r 14 s.r.k) [40]).e ≠ 0 := by
      unfold needR
      rw [if_neg (by rw [hb]; decide)]
      exact fail_e (by decide)
    have key : ∀ q : PS, q.r.e ≠ 0 → (choP t pc q).2.r.e ≠ 0 := by
      intro q hq
      have s1 : (seqP t pc (addP q (bare 3 .empty 0))).2.r.e ≠ 0 := by
        unfold seqP
        dsimp only
        rw [seqLoop_e _ (addP (addP q (bare 3 .empty 0)) (bare 2 .empty 0)) _ hq]
        exact hq
      have s2 : ∀ n (z : PS) l, z.r.e ≠ 0 → (choLoop t pc n z l).2 = z := by
        intro n z l hz
        cases n with
        | zero => rfl
        | succ n =>
          unfold choLoop
          have : takeB t z.r [124] = false := by unfold takeB restR; rw [if_neg hz]; rfl
          rw [if_neg (by rw [this]; decide)]
      unfold choP
      dsimp only
      show (choLoop t pc _ _ _).2.r.e ≠ 0
      rw [s2 _ _ _ s1]
      exact s1
    exact key (addP ⟨needR t (failR s.r 14 s.r.k) [40], s.L, s.g + 1⟩ (bare 4 .empty ((s.g + 1 : Nat) : Int))) e1 k2
  · rw [if_neg h9] at h ⊢
    have he := (times_e t _ _).symm.trans h
    have hn := need_s (x := [41]) (by decide) he
    have k2 : (choP t pc (addP ⟨needR t s.r [40], s.L, s.g + 1⟩ (bare 4 .empty ((s.g + 1 : Nat) : Int)))).2.r.e = 0 := hn.1
    have hm1 : (restR t (needR t s.r [40])).length ≤ m := by
      by_cases hb : takeB t s.r [40] = true
      · have := congrArg List.length (take_rd hb (by decide)).rest
        unfold needR
        rw [if_pos hb]
        rw [List.length_append, List.length_singleton] at this
        omega
      · unfold needR
        rw [if_neg hb]
        unfold restR
        rw [if_neg (fail_e (by decide))]
        exact Nat.zero_le _
    obtain ⟨c, x, h1, g1, f1, f2, f3, f4⟩ := ch_s hpc _ hm1 (by show s.g + 1 ≤ 9; omega) k2
    have h0 := need_s (x := [40]) (by decide) h1.1
    obtain ⟨h5, h6⟩ := times_s (t := t) he [3] (by decide)
    refine ⟨.grp c (timesV t (needR t (choP t pc (addP ⟨needR t s.r [40], s.L, s.g + 1⟩ (bare 4 .empty ((s.g + 1 : Nat) : Int)))).2.r [41]) [3]), _, ((h0.trans h1).trans hn).trans h5, ⟨x, g1, ?_, rfl⟩, rfl, ?_, ?_, f4⟩
    · rcases h6 with h6 | h6
      · exact .inl h6
      · exact .inr (List.mem_singleton.1 h6)
    · show setTimes (adoptP (choP t pc (addP ⟨needR t s.r [40], s.L, s.g + 1⟩ (bare 4 .empty ((s.g + 1 : Nat) : Int)))).2 s.L.length [(choP t pc (addP ⟨needR t s.r [40], s.L, s.g + 1⟩ (bare 4 .empty ((s.g + 1 : Nat) : Int)))).1]).L s.L.length _ = _
      have el : (addP (⟨needR t s.r [40], s.L, s.g + 1⟩ : PS) (bare 4 .empty ((s.g + 1 : Nat) : Int))).L = s.L ++ [bare 4 .empty ((s.g + 1 : Nat) : Int)] := rfl
      have eg : (addP (⟨needR t s.r [40], s.L, s.g + 1⟩ : PS) (bare 4 .empty ((s.g + 1 : Nat) : Int))).g = s.g + 1 := rfl
      rw [el] at f1 f2
      rw [eg] at f2
      rw [List.length_append, List.length_singleton] at f1 f2
      rw [List.append_assoc] at f2
      unfold adoptP
      dsimp only
      rw [f1, f2]
      show setTimes (putL (s.L ++ bare 4 .empty ((s.g + 1 : Nat) : Int) :: chB (s.L.length + 1) (s.g + 1) c) (s.L.length, false) (s.L.length + 1)) s.L.length _ = _
      rw [put_first _ _ _ _ _ rfl]
      unfold setTimes
      rw [mod_at]
      rfl
    · show (choP t pc (addP ⟨needR t s.r [40], s.L, s.g + 1⟩ (bare 4 .empty ((s.g + 1 : Nat) : Int)))).2.g = _
      rw [f3]
      show s.g + 1 + gcQ c = s.g + (gcQ c + 1)
      omega
theorem pc_s (t : List UInt8) : ∀ f : Nat, PcOK t (pcP t f) f
  | 0 => fun s hm hs _ _ => by
    obtain ⟨c, z, hr, _⟩ := sees_rest hs
    rw [hr] at hm
    simp at hm
  | f + 1 => fun s hm hs hg h => by
    have ih := pc_s t f
    unfold pcP pieceP at h ⊢
    by_cases h40 : Lib.hasPrefix (restR t s.r) [40] = true
    · rw [if_pos h40] at h ⊢
      exact grp_s ih s hm hg h
    · rw [if_neg h40] at h ⊢
      exact atom_s s hs (by simpa using h40) hg h
/-- What is read without a fault is a pattern, and the answer is its tree. -/
theorem par_s {t : List UInt8} (h : (parP t).2.1 = 0) : t.length ≤ 64 ∧ ∃ bb en c x, t = (if bb = true then [94] else []) ++ x ++ (if en = true then [36] else []) ∧ GQ c x ∧ gcQ c ≤ 9 ∧ parP t = (⟨flT c, bb, en, (gcQ c : Int)⟩, 0, 0) := by
  unfold parP at h ⊢
  by_cases hl : 64 < t.length
  · rw [if_pos hl] at h
    cases h
  · rw [if_neg hl] at h ⊢
    dsimp only at h ⊢
    refine ⟨by omega, ?_⟩
    by_cases he : (lastR t (patS t).r).e = 0
    · rw [if_pos he]
      have hq : restR t (endR t (patS t).r) = [] ∧ (endR t (patS t).r).e = 0 := by
        unfold lastR at he
        by_cases hn : restR t (endR t (patS t).r) = []
        · rw [if_pos hn] at he
          exact ⟨hn, he⟩
        · rw [if_neg hn] at he
          exact absurd he (fail_e (by decide))
      have hR : Rd t (patS t).r (if endB t (patS t).r = true then [36] else []) (endR t (patS t).r) := by
        unfold endR at hq ⊢
        by_cases hb : endB t (patS t).r = true
        · rw [if_pos hb, if_pos hb]
          unfold endB at hb
          have := of_decide_eq_true hb
          exact take_rd (take_yes (x := [36]) (z := []) this).1 (by decide)
        · rw [if_neg hb] at hq ⊢
          rw [if_neg hb]
          exact Rd.nil hq.2
      have hp : (choP t (pcP t t.length) ⟨takeR t ⟨0, 0, 0⟩ [94], [], 0⟩).2.r.e = 0 := hR.1
      obtain ⟨c, x, h1, g1, f1, f2, f3, f4⟩ := ch_s (pc_s t t.length) _ (rest_len t _) (Nat.zero_le _) hp
      have h0 : Rd t ⟨0, 0, 0⟩ (if takeB t ⟨0, 0, 0⟩ [94] = true then [94] else []) (takeR t ⟨0, 0, 0⟩ [94]) := by
        by_cases hb : takeB t ⟨0, 0, 0⟩ [94] = true
        · rw [if_pos hb]; exact take_rd hb (by decide)
        · rw [if_neg hb, take_no (by simpa using hb)]; exact Rd.nil rfl
      have hr := ((h0.trans h1).trans hR).rest
      rw [hq.1, List.append_nil] at hr
      have e0 : restR t ⟨0, 0, 0⟩ = t := rfl
      rw [e0] at hr
      refine ⟨_, _, c, x, hr, g1, ?_, ?_⟩
      · rw [f3] at f4
        omega
      · have eL : (patS t).L = flT c := f2
        have eg : (patS t).g = gcQ c := f3.trans (Nat.zero_add _)
        rw [eL, eg]
    · rw [if_neg he] at h
      exact absurd h he
theorem par_f {t : List UInt8} (h : (parP t).2.1 ≠ 0) : (parP t).1 = .none := by
  unfold parP at h ⊢
  by_cases hl : 64 < t.length
  · rw [if_pos hl]
  · rw [if_neg hl] at h ⊢
    dsimp only at h ⊢
    split at h
    · exact absurd rfl h
    · rename_i he
      rw [if_neg he]
theorem par_chk {t : List UInt8} (h : (parP t).2.1 = 0) : chkR (parP t).1.L (parP t).1.g = 0 := by
  obtain ⟨hl, bb, en, c, x, ht, g1, g2, e⟩ := par_s h
  rw [e]
  have k := wf_Q c x g1
  refine chk_flT c k.1 g2 ?_
  have := congrArg List.length ht
  simp only [List.length_append] at this
  omega
end Go.Proofs.YtdnbnigebejgjaaGreatDoor
namespace Go.Proofs.YtdnbnigebejgjaaGreatDoor
open Go.RowKit
theorem take2_no {t : List UInt8} {s : RS} {c d : UInt8} {z : List UInt8} (h : restR t s = c :: z) (hc : c ≠ 92) : takeB t s [92, d] = false := by
  unfold takeB Lib.hasPrefix
  rw [h]
  have : (92 == c) = false := by simpa using Ne.symm hc
  simp [List.isPrefixOf, this]
theorem take1_no {t : List UInt8} {s : RS} {c d : UInt8} {z : List UInt8} (h : restR t s = c :: z) (hc : c ≠ d) : takeB t s [d] = false :=
  take_one_no (by rw [h]; simpa using hc)
theorem adv_zero (s : RS) : adv s 0 = s := rfl
theorem els_head {y : List UInt8} {w w' : WSet} (h : GEls y w w') (z : List UInt8) : (y ++ 93 :: z).head? ≠ some 45 := by
  cases h with
  | nil => simp
  | cons y1 y2 _ _ _ g1 _ =>
    obtain ⟨d, _, rfl, hd, _⟩ := el_head g1
    simpa using hd
theorem cls_c {t : List UInt8} {s : RS} {o : Bool} {y y' z : List UInt8} {v v' : WSet} (h : restR t s = (if o = true then [94] else []) ++ (y ++ (y' ++ 93 :: z))) (g1 : GEl y v) (h94 : o = false → y.head? ≠ some 94) (g2 : GEls y' v v') (hw : clsW o v' ≠ .empty) :
    clsV t s = clsW o v' ∧ clsR t s = adv s (((if o = true then [94] else ([] : List UInt8)) ++ y ++ y' ++ [93]).length) := by
  have ho : takeB t s [94] = o ∧ takeR t s [94] = adv s ((if o = true then [94] else ([] : List UInt8)).length) := by
    cases o with
    | true => exact take_yes h
    | false =>
      have hb : takeB t s [94] = false := by
        obtain ⟨c, y1, rfl, _⟩ := el_head g1
        refine take_one_no ?_
        rw [h]
        have := h94 rfl
        simpa using this
      exact ⟨hb, take_no hb⟩
  have r1 := rest_adv h
  rw [← ho.2] at r1
  obtain ⟨k1, k2⟩ := el_c g1 r1 (els_head g2 z)
  have r2 := rest_adv r1
  rw [← k2] at r2
  have hl : y'.length ≤ t.length := by
    have := rest_len t (elR t (takeR t s [94]))
    rw [r2, List.length_append] at this
    omega
  have k3 := els_c g2 _ _ t.length r2 hl
  have r3 := rest_adv r2
  have eV : clsV t s = clsW o v' := by
    unfold clsV clsIn
    rw [k1, k3, ho.1]
  refine ⟨eV, ?_⟩
  unfold clsR
  rw [eV]
  unfold clsIn
  rw [k1, k3]
  unfold clsEnd
  rw [if_neg hw]
  rw [need_c (x := [93]) (z := z) r3, k2, ho.2, adv_adv, adv_adv, adv_adv]
  congr 1
  simp only [List.length_append]
  omega
theorem set_c {t : List UInt8} {s : RS} {x z : List UInt8} {w : WSet} (hg : GSet x w) (h : restR t s = x ++ z) : setV t s = w ∧ setR t s = adv s x.length := by
  rcases hg with ⟨rfl, rfl⟩ | ⟨rfl, rfl⟩ | ⟨rfl, rfl⟩ | ⟨o, y, y', v, v', rfl, g1, h94, g2, rfl, hw⟩ | ⟨b, rfl, h1, h2, rfl⟩ | ⟨b, rfl, hb, h40, h46, h91, h92, rfl⟩
  · obtain ⟨k1, k2⟩ := named_d h
    unfold setV setR
    rw [k1, if_pos rfl, if_pos rfl, k2]
    exact ⟨rfl, rfl⟩
  · obtain ⟨k1, k2⟩ := named_w h
    unfold setV setR
    rw [k1, if_pos rfl, if_pos rfl, k2]
    exact ⟨rfl, rfl⟩
  · have k1 := gnamed_no (take2_no (d := 100) (z := z) h (by decide)) (take2_no (d := 119) (z := z) h (by decide))
    obtain ⟨k2, k3⟩ := take_yes (x := [46]) h
    constructor
    · unfold setV
      rw [k1, if_neg (by simp), if_pos k2]
    · unfold setR
      rw [k1, if_neg (by simp), if_pos k2, k3]
  · have h' : restR t s = 91 :: ((if o = true then [94] else []) ++ (y ++ (y' ++ 93 :: z))) := by
      rw [h]
      simp [List.append_assoc]
    have k1 := gnamed_no (take2_no (d := 100) h' (by decide)) (take2_no (d := 119) h' (by decide))
    have k2 := take1_no (d := 46) h' (by decide)
    obtain ⟨k3, k4⟩ := take_yes (x := [91]) h'
    have r1 := rest_adv (x := [91]) h'
    obtain ⟨k5, k6⟩ := cls_c r1 g1 h94 g2 hw
    rw [← k4] at k5 k6
    constructor
    · unfold setV
      rw [k1, if_neg (by simp), if_neg (by rw [k2]; decide), if_pos k3, k5]
    · unfold setR
      rw [k1, if_neg (by simp), if_neg (by rw [k2]; decide), if_pos k3, k6, k4, adv_adv]
      congr 1
      simp only [List.length_cons, List.length_nil]
      omega
  · have k1 : namedV t s = (.empty, false) := named_cb (x := [92, b]) (.inr ⟨rfl, h1, h2⟩) h
    have k2 := take1_no (d := 46) h (by decide)
    have k3 := take1_no (d := 91) h (by decide)
    obtain ⟨k4, k5⟩ := take_yes (x := [92]) (z := b :: z) h
    have r1 := rest_adv (x := [92]) (z := b :: z) h
    rw [← k5] at r1
    obtain ⟨k6, k7⟩ := one_c (o := []) r1 rfl
    constructor
    · unfold setV
      rw [k1, if_neg (by simp), if_neg (by rw [k2]; decide), if_neg (by rw [k3]; decide), k6]
    · unfold setR
      rw [k1, if_neg (by simp), if_neg (by rw [k2]; decide), if_neg (by rw [k3]; decide), k7, k5, adv_adv]
      rfl
  · have k1 := gnamed_no (take2_no (d := 100) h h92) (take2_no (d := 119) h h92)
    have k2 := take1_no h h46
    have k3 := take1_no h h91
    have k4 := take_no (take1_no h h92)
    obtain ⟨k6, k7⟩ := one_c (o := []) h rfl
    constructor
    · unfold setV
      rw [k1, if_neg (by simp), if_neg (by rw [k2]; decide), if_neg (by rw [k3]; decide), k4, k6]
    · unfold setR
      rw [k1, if_neg (by simp), if_neg (by rw [k2]; decide), if_neg (by rw [k3]; decide), k4, k7]
      rfl
def NoSign (z : List UInt8) : Prop := ∀ c, z.head? = some c → c ≠ 42 ∧ c ≠ 43 ∧ c ≠ 63
def Stop (z : List UInt8) : Prop := seesL behindL z = false ∧ NoSign z
theorem nosign_of {c : UInt8} {y : List UInt8} (h : behindL.contains c = false) : NoSign (c :: y) := by
  intro d hd
  injection hd with hd
  subst hd
  simp [behindL] at h
  exact ⟨h.2.2.1, h.2.2.2.1, h.2.2.2.2.1⟩
theorem sign_no {t : List UInt8} {s : RS} {z : List UInt8} {tm : Nat} (h : restR t s = z) (hz : NoSign z) (h1 : 1 ≤ tm) (h3 : tm ≤ 3) : takeB t s (signL tm) = false := by
  have key : ∀ d : UInt8, (d = 42 ∨ d = 43 ∨ d = 63) → takeB t s [d] = false := by
    intro d hd
    refine take_one_no ?_
    rw [h]
    intro e
    have := hz d e
    rcases hd with rfl | rfl | rfl
    · exact this.1 rfl
    · exact this.2.1 rfl
    · exact this.2.2 rfl
  match tm, h1, h3 with
  | 1, _, _ => exact key 42 (.inl rfl)
  | 2, _, _ => exact key 43 (.inr (.inl rfl))
  | 3, _, _ => exact key 63 (.inr (.inr rfl))
theorem times_c {t : List UInt8} {s : RS} {z : List UInt8} {tm : Nat} (h : restR t s = signL tm ++ z) (hz : NoSign z) (h3 : tm ≤ 3) : timesV t s [1, 2, 3] = tm ∧ timesR t s [1, 2, 3] = adv s (signL tm).length := by
  match tm, h3 with
  | 0, _ =>
    have a1 := sign_no (tm := 1) h hz (by omega) (by omega)
    have a2 := sign_no (tm := 2) h hz (by omega) (by omega)
    have a3 := sign_no (tm := 3) h hz (by omega) (by omega)
    simp only [timesV, timesR, a1, a2, a3]
    exact ⟨rfl, rfl⟩
  | 1, _ =>
    obtain ⟨b1, b2⟩ := take_yes h
    simp only [timesV, timesR, b1, b2]
    exact ⟨rfl, rfl⟩
  | 2, _ =>
    obtain ⟨b1, b2⟩ := take_yes h
    have a1 : takeB t s (signL 1) = false := take1_no (c := 43) (d := 42) (z := z) h (by decide)
    simp only [timesV, timesR, a1, b1, b2]
    exact ⟨rfl, rfl⟩
  | 3, _ =>
    obtain ⟨b1, b2⟩ := take_yes h
    have a1 : takeB t s (signL 1) = false := take1_no (c := 63) (d := 42) (z := z) h (by decide)
    have a2 : takeB t s (signL 2) = false := take1_no (c := 63) (d := 43) (z := z) h (by decide)
    simp only [timesV, timesR, a1, a2, b1, b2]
    exact ⟨rfl, rfl⟩
theorem times3_c {t : List UInt8} {s : RS} {z : List UInt8} {tm : Nat} (h : restR t s = signL tm ++ z) (hz : NoSign z) (h3 : tm = 0 ∨ tm = 3) : timesV t s [3] = tm ∧ timesR t s [3] = adv s (signL tm).length := by
  rcases h3 with rfl | rfl
  · have a3 := sign_no (tm := 3) h hz (by omega) (by omega)
    simp only [timesV, timesR, a3]
    exact ⟨rfl, rfl⟩
  · obtain ⟨b1, b2⟩ := take_yes h
    simp only [timesV, timesR, b1, b2]
    exact ⟨rfl, rfl⟩
def PcC (t : List UInt8) (pc : PS → Nat × PS) (m : Nat) : Prop :=
  ∀ (p : Pc) (x : List UInt8) (s : PS) (z : List UInt8), GP p x → x.length ≤ m → restR t s.r = x ++ z → NoSign z → s.g + gcP p ≤ 9 → pc s = (s.L.length, ⟨adv s.r x.length, s.L ++ flP s.L.length s.g (-1) p, s.g + gcP p⟩)
theorem seq_c {t : List UInt8} {pc : PS → Nat × PS} {m : Nat} (hpc : PcC t pc m) : ∀ (r : Ps) (x : List UInt8) (s : PS) (z : List UInt8) (n : Nat) (l : List Nat), GS r x → x.length ≤ n → x.length ≤ m → restR t s.r = x ++ z → Stop z → s.g + gcS r ≤ 9 →
    seqLoop t pc n s l = (l ++ kidsS s.L.length r, ⟨adv s.r x.length, s.L ++ fuS s.L.length s.g r, s.g + gcS r⟩)
  | .nil, x, s, z, n, l, hg, _, _, h, hz, _ => by
    obtain rfl : x = [] := hg
    have hs : seesB t s.r behindL = false := by unfold seesB; rw [h]; exact hz.1
    have e : seqLoop t pc n s l = (l, s) := by
      cases n with
      | zero => rfl
      | succ n => unfold seqLoop; rw [if_neg (by rw [hs]; decide)]
    rw [e]
    show _ = (l ++ [], (⟨s.r, s.L ++ [], s.g⟩ : PS))
    rw [List.append_nil, List.append_nil]
  | .cons p r, x, s, z, n, l, hg, hn, hm, h, hz, h9 => by
    unfold GS at hg
    obtain ⟨y, z0, g1, g2, rfl⟩ := hg
    obtain ⟨c, y', ey, hc⟩ := gp_head g1
    have hy : 1 ≤ y.length := by rw [ey]; simp
    rw [List.length_append] at hn hm
    obtain ⟨n, rfl⟩ : ∃ k, n = k + 1 := ⟨n - 1, by omega⟩
    rw [List.append_assoc] at h
    have hs : seesB t s.r behindL = true := sees_of (c := c) (z := y' ++ (z0 ++ z)) (by rw [h, ey]; rfl) hc
    have hns : NoSign (z0 ++ z) := by
      cases r with
      | nil =>
        obtain rfl : z0 = [] := g2
        exact hz.2
      | cons q r =>
        unfold GS at g2
        obtain ⟨u, _, g3, _, rfl⟩ := g2
        obtain ⟨d, u', rfl, hd⟩ := gp_head g3
        exact nosign_of hd
    have hgc : s.g + gcP p + gcS r ≤ 9 := by
      have : gcS (.cons p r) = gcP p + gcS r := rfl
      omega
    have k := hpc p y s (z0 ++ z) g1 (by omega) h hns (by omega)
    unfold seqLoop
    rw [if_pos hs, k]
    have i := seq_c hpc r z0 ⟨adv s.r y.length, s.L ++ flP s.L.length s.g (-1) p, s.g + gcP p⟩ z n (l ++ [s.L.length]) g2 (by omega) (by omega) (rest_adv h) hz hgc
    refine i.trans ?_
    dsimp only
    rw [adv_adv, List.length_append, flP_len, List.append_assoc, List.append_assoc, Nat.add_assoc s.g, List.length_append]
    rfl
theorem sq_c {t : List UInt8} {pc : PS → Nat × PS} {m : Nat} (hpc : PcC t pc m) (r : Ps) (x : List UInt8) (s : PS) (z : List UInt8) (hg : GS r x) (hm : x.length ≤ m) (h : restR t s.r = x ++ z) (hz : Stop z) (h9 : s.g + gcS r ≤ 9) :
    seqP t pc s = (s.L.length, ⟨adv s.r x.length, s.L ++ sqB s.L.length s.g (-1) r, s.g + gcS r⟩) := by
  have hl : x.length ≤ t.length := by
    have := rest_len t s.r
    rw [h, List.length_append] at this
    omega
  have k := seq_c hpc r x (addP s (bare 2 .empty 0)) z t.length [] hg hl hm h hz h9
  unfold seqP
  rw [k]
  unfold adoptP
  dsimp only
  have e : (addP s (bare 2 .empty 0)).L = s.L ++ [bare 2 .empty 0] := rfl
  have e2 : (addP s (bare 2 .empty 0)).g = s.g := rfl
  have e3 : (addP s (bare 2 .empty 0)).r = s.r := rfl
  rw [e, e2, e3, List.nil_append, List.length_append, List.append_assoc]
  have a := adS0 r s.L s.L.length s.g rfl
  rw [← a]
  rfl
theorem cho_c {t : List UInt8} {pc : PS → Nat × PS} {m : Nat} (hpc : PcC t pc m) : ∀ (c : Cs) (x : List UInt8) (s : PS) (z : List UInt8) (n : Nat) (l : List Nat), GQ c x → x.length ≤ n → x.length ≤ m → restR t s.r = x ++ z → Stop z → z.head? ≠ some 124 → s.g + gcQ c ≤ 9 →
    choLoop t pc n (seqP t pc s).2 (l ++ [(seqP t pc s).1]) = (l ++ kidsQ s.L.length c, ⟨adv s.r x.length, s.L ++ fuQ s.L.length s.g c, s.g + gcQ c⟩)
  | .one r, x, s, z, n, l, hg, hn, hm, h, hz, hb, h9 => by
    rw [sq_c hpc r x s z hg hm h hz h9]
    have ht : takeB t (adv s.r x.length) [124] = false := take_one_no (by rw [rest_adv h]; exact hb)
    cases n with
    | zero => rfl
    | succ n =>
      unfold choLoop
      dsimp only
      rw [if_neg (by rw [ht]; decide)]
      rfl
  | .cons r c, x, s, z, n, l, hg, hn, hm, h, hz, hb, h9 => by
    unfold GQ at hg
    obtain ⟨y, z0, g1, g2, rfl⟩ := hg
    rw [List.length_append, List.length_append, List.length_singleton] at hn hm
    obtain ⟨n, rfl⟩ : ∃ k, n = k + 1 := ⟨n - 1, by omega⟩
    rw [List.append_assoc, List.append_assoc] at h
    have hgc : s.g + gcS r + gcQ c ≤ 9 := by
      have : gcQ (.cons r c) = gcS r + gcQ c := rfl
      omega
    rw [sq_c hpc r y s ([124] ++ (z0 ++ z)) g1 (by omega) h ⟨rfl, fun d hd => by injection hd with hd; subst hd; decide⟩ (by omega)]
    have r1 := rest_adv h
    obtain ⟨k1, k2⟩ := take_yes r1
    unfold choLoop
    dsimp only
    rw [if_pos k1, k2]
    have r2 := rest_adv r1
    have i := cho_c hpc c z0 ⟨adv (adv s.r y.length) 1, s.L ++ sqB s.L.length s.g (-1) r, s.g + gcS r⟩ z n (l ++ [s.L.length]) g2 (by omega) (by omega) r2 hz hb hgc
    refine i.trans ?_
    dsimp only
    have el : (s.L ++ sqB s.L.length s.g (-1) r).length = s.L.length + 1 + szS r := by rw [List.length_append]; unfold sqB; rw [List.length_cons, flS_len]; omega
    have e1 : y.length + (1 + z0.length) = (y ++ ([124] ++ z0)).length := by simp only [List.length_append, List.length_singleton]
    have e2 : s.g + gcS r + gcQ c = s.g + gcQ (.cons r c) := by show _ = s.g + (gcS r + gcQ c); omega
    rw [adv_adv, adv_adv, el, List.append_assoc, List.append_assoc, e1, e2]
    rfl
theorem ch_c {t : List UInt8} {pc : PS → Nat × PS} {m : Nat} (hpc : PcC t pc m) (c : Cs) (x : List UInt8) (s : PS) (z : List UInt8) (hg : GQ c x) (hm : x.length ≤ m) (h : restR t s.r = x ++ z) (hz : Stop z) (hb : z.head? ≠ some 124) (h9 : s.g + gcQ c ≤ 9) :
    choP t pc s = (s.L.length, ⟨adv s.r x.length, s.L ++ chB s.L.length s.g c, s.g + gcQ c⟩) := by
  have hl : x.length ≤ t.length := by
    have := rest_len t s.r
    rw [h, List.length_append] at this
    omega
  have k := cho_c hpc c x (addP s (bare 3 .empty 0)) z t.length [] hg hl hm h hz hb h9
  rw [List.nil_append, List.nil_append] at k
  unfold choP
  dsimp only
  rw [k]
  unfold adoptP
  dsimp only
  have e : (addP s (bare 3 .empty 0)).L = s.L ++ [bare 3 .empty 0] := rfl
  have e2 : (addP s (bare 3 .empty 0)).g = s.g := rfl
  have e3 : (addP s (bare 3 .empty 0)).r = s.r := rfl
  rw [e, e2, e3, List.length_append, List.append_assoc]
  have a := adQ0 c s.L s.L.length s.g rfl
  rw [← a]
  rfl
theorem atom_c {t : List UInt8} (w : WSet) (tm : Nat) (x : List UInt8) (s : PS) (z : List UInt8) (hg : GP (.atom w tm) x) (h : restR t s.r = x ++ z) (hz : NoSign z) :
    Lib.hasPrefix (restR t s.r) [40] = false ∧ atomP t s = (s.L.length, ⟨adv s.r x.length, s.L ++ flP s.L.length s.g (-1) (.atom w tm), s.g⟩) := by
  unfold GP at hg
  obtain ⟨y, g1, h3, rfl⟩ := hg
  rw [List.append_assoc] at h
  constructor
  · obtain ⟨c, y', rfl, _, h40⟩ := gset_head g1
    rw [h]
    have : (40 == c) = false := by simpa using Ne.symm h40
    unfold Lib.hasPrefix
    simp [List.isPrefixOf, this]
  · obtain ⟨k1, k2⟩ := set_c g1 h
    have r1 := rest_adv h
    obtain ⟨k3, k4⟩ := times_c r1 hz h3
    have e1 : atomP t s = (s.L.length, ⟨timesR t (setR t s.r) [1, 2, 3], setTimes (s.L ++ [bare 1 (setV t s.r) 0]) s.L.length (timesV t (setR t s.r) [1, 2, 3]), s.g⟩) := rfl
    rw [e1, k1, k2, k3, k4, adv_adv, List.length_append]
    unfold setTimes
    rw [mod_at]
    rfl
theorem grp_c {t : List UInt8} {pc : PS → Nat × PS} {m : Nat} (hpc : PcC t pc m) (c : Cs) (tm : Nat) (x : List UInt8) (s : PS) (z : List UInt8) (hg : GP (.grp c tm) x) (hm : x.length ≤ m + 1) (h : restR t s.r = x ++ z) (hz : NoSign z) (h9 : s.g + gcP (.grp c tm) ≤ 9) :
    Lib.hasPrefix (restR t s.r) [40] = true ∧ grpP t pc s = (s.L.length, ⟨adv s.r x.length, s.L ++ flP s.L.length s.g (-1) (.grp c tm), s.g + gcP (.grp c tm)⟩) := by
  unfold GP at hg
  obtain ⟨y, g1, h3, rfl⟩ := hg
  simp only [List.append_assoc] at h
  simp only [List.length_append, List.length_singleton] at hm
  have hgc : s.g + (gcQ c + 1) ≤ 9 := h9
  have t1 := take_yes h
  refine ⟨t1.1, ?_⟩
  have n1 := need_c h
  have r1 := rest_adv h
  have k := ch_c hpc c y (addP ⟨adv s.r 1, s.L, s.g + 1⟩ (bare 4 .empty ((s.g + 1 : Nat) : Int))) ([41] ++ (signL tm ++ z)) g1 (by omega) r1 ⟨rfl, fun d hd => by injection hd with hd; subst hd; decide⟩ (by simp) (by show s.g + 1 + gcQ c ≤ 9; omega)
  have r2 := rest_adv r1
  have n2 := need_c r2
  have r3 := rest_adv r2
  obtain ⟨k3, k4⟩ := times3_c r3 hz h3
  unfold grpP
  dsimp only
  rw [if_neg (by omega), n1]
  have n1' : adv s.r ([40] : List UInt8).length = adv s.r 1 := rfl
  rw [n1', k]
  have e : (addP (⟨adv s.r 1, s.L, s.g + 1⟩ : PS) (bare 4 .empty ((s.g + 1 : Nat) : Int))).L = s.L ++ [bare 4 .empty ((s.g + 1 : Nat) : Int)] := rfl
  have e2 : (addP (⟨adv s.r 1, s.L, s.g + 1⟩ : PS) (bare 4 .empty ((s.g + 1 : Nat) : Int))).g = s.g + 1 := rfl
  have e3 : (addP (⟨adv s.r 1, s.L, s.g + 1⟩ : PS) (bare 4 .empty ((s.g + 1 : Nat) : Int))).r = adv s.r 1 := rfl
  rw [e, e2, e3]
  unfold adoptP
  dsimp only
  have n2' : needR t (adv (adv s.r 1) y.length) [41] = adv (adv (adv s.r 1) y.length) 1 := n2
  have k3' : timesV t (adv (adv (adv s.r 1) y.length) 1) [3] = tm := k3
  have k4' : timesR t (adv (adv (adv s.r 1) y.length) 1) [3] = adv (adv (adv (adv s.r 1) y.length) 1) (signL tm).length := k4
  rw [n2', k3', k4', adv_adv, adv_adv, adv_adv, List.length_append, List.append_assoc]
  have el : s.L.length + [bare 4 .empty ((s.g + 1 : Nat) : Int)].length = s.L.length + 1 := rfl
  rw [el]
  have ep : adoptL (s.L ++ ([bare 4 .empty ((s.g + 1 : Nat) : Int)] ++ chB (s.L.length + 1) (s.g + 1) c)) (s.L.length, false) [s.L.length + 1] = s.L ++ ⟨4, 0, .empty, ((s.g + 1 : Nat) : Int), ((s.L.length + 1 : Nat) : Int), -1⟩ :: chB (s.L.length + 1) (s.g + 1) c := put_first s.L _ s.L.length (bare 4 .empty ((s.g + 1 : Nat) : Int)) (s.L.length + 1) rfl
  rw [ep]
  unfold setTimes
  rw [mod_at]
  have eg : s.g + 1 + gcQ c = s.g + gcP (.grp c tm) := by show _ = s.g + (gcQ c + 1); omega
  rw [eg]
  have ex : 1 + (y.length + (1 + (signL tm).length)) = ([40] ++ y ++ [41] ++ signL tm).length := by simp only [List.length_append, List.length_singleton]; omega
  rw [ex]
  rfl
theorem pc_c (t : List UInt8) : ∀ f : Nat, PcC t (pcP t f) f
  | 0 => fun p x s z hg hx _ _ _ => by
    obtain ⟨c, y, rfl, _⟩ := gp_head hg
    simp at hx
  | f + 1 => fun p x s z hg hx h hz h9 => by
    unfold pcP pieceP
    cases p with
    | atom w tm =>
      obtain ⟨h1, h2⟩ := atom_c w tm x s z hg h hz
      rw [if_neg (by rw [h1]; decide), h2]
      rfl
    | grp c tm =>
      obtain ⟨h1, h2⟩ := grp_c (pc_c t f) c tm x s z hg hx h hz h9
      rw [if_pos h1, h2]
theorem gq_head : ∀ {c : Cs} {x : List UInt8}, GQ c x → x.head? ≠ some 94
  | .one s, x, h => by
    unfold GQ at h
    cases s with
    | nil => obtain rfl : x = [] := h; simp
    | cons p r =>
      unfold GS at h
      obtain ⟨y, z, g1, _, rfl⟩ := h
      obtain ⟨c, y', rfl, hc⟩ := gp_head g1
      simp [behindL] at hc
      simpa using hc.1
  | .cons s r, x, h => by
    unfold GQ at h
    obtain ⟨y, z, g1, _, rfl⟩ := h
    cases s with
    | nil => obtain rfl : y = [] := g1; simp
    | cons p r =>
      unfold GS at g1
      obtain ⟨y, z, g1, _, rfl⟩ := g1
      obtain ⟨c, y', rfl, hc⟩ := gp_head g1
      simp [behindL] at hc
      simpa using hc.1
theorem par_c {c : Cs} {x : List UInt8} (bb en : Bool) (hg : GQ c x) (h9 : gcQ c ≤ 9) (t : List UInt8) (ht : t = (if bb = true then [94] else []) ++ x ++ (if en = true then [36] else [])) (hl : t.length ≤ 64) :
    parP t = (⟨flT c, bb, en, (gcQ c : Int)⟩, 0, 0) := by
  have r0 : restR t ⟨0, 0, 0⟩ = (if bb = true then [94] else []) ++ (x ++ (if en = true then [36] else [])) := by
    rw [← List.append_assoc, ← ht]; rfl
  have hb : takeB t ⟨0, 0, 0⟩ [94] = bb ∧ takeR t ⟨0, 0, 0⟩ [94] = adv ⟨0, 0, 0⟩ (if bb = true then [94] else ([] : List UInt8)).length := by
    cases bb with
    | true => exact take_yes r0
    | false =>
      have hn : takeB t ⟨0, 0, 0⟩ [94] = false := by
        refine take_one_no ?_
        rw [r0, if_neg (by decide), List.nil_append]
        cases hx : x with
        | nil => cases en <;> simp
        | cons d x' =>
          have := gq_head hg
          rw [hx] at this
          simpa using this
      exact ⟨hn, take_no hn⟩
  have r1 := rest_adv r0
  rw [← hb.2] at r1
  have hst : Stop (if en = true then [36] else []) ∧ (if en = true then [36] else ([] : List UInt8)).head? ≠ some 124 := by
    cases en with
    | true => exact ⟨⟨rfl, fun d hd => by injection hd with hd; subst hd; decide⟩, by simp⟩
    | false => exact ⟨⟨rfl, fun d hd => by cases hd⟩, by simp⟩
  have hxl : x.length ≤ t.length := by rw [ht]; simp only [List.length_append]; omega
  have k := ch_c (pc_c t t.length) c x ⟨takeR t ⟨0, 0, 0⟩ [94], [], 0⟩ _ hg hxl r1 hst.1 hst.2 (by show 0 + gcQ c ≤ 9; omega)
  have r2 := rest_adv r1
  have ep : patS t = ⟨adv (takeR t ⟨0, 0, 0⟩ [94]) x.length, flT c, gcQ c⟩ := by
    unfold patS
    rw [k]
    dsimp only
    rw [List.nil_append, Nat.zero_add]
    rfl
  have ee : endB t (adv (takeR t ⟨0, 0, 0⟩ [94]) x.length) = en ∧ restR t (endR t (adv (takeR t ⟨0, 0, 0⟩ [94]) x.length)) = [] ∧ (endR t (adv (takeR t ⟨0, 0, 0⟩ [94]) x.length)).e = 0 := by
    have he0 : (adv (takeR t ⟨0, 0, 0⟩ [94]) x.length).e = 0 := by rw [hb.2]; rfl
    cases en with
    | true =>
      have h1 : endB t (adv (takeR t ⟨0, 0, 0⟩ [94]) x.length) = true := by unfold endB; rw [r2]; rfl
      refine ⟨h1, ?_⟩
      unfold endR
      rw [if_pos h1]
      have r2' : restR t (adv (takeR t ⟨0, 0, 0⟩ [94]) x.length) = [36] ++ [] := r2
      rw [(take_yes r2').2]
      exact ⟨rest_adv r2', he0⟩
    | false =>
      have h1 : endB t (adv (takeR t ⟨0, 0, 0⟩ [94]) x.length) = false := by unfold endB; rw [r2]; rfl
      refine ⟨h1, ?_⟩
      unfold endR
      rw [if_neg (by rw [h1]; decide)]
      exact ⟨r2, he0⟩
  unfold parP
  rw [if_neg (by omega)]
  dsimp only
  rw [ep]
  dsimp only
  unfold lastR
  rw [if_pos ee.2.1, if_pos ee.2.2, ee.1, hb.1]
end Go.Proofs.YtdnbnigebejgjaaGreatDoor
