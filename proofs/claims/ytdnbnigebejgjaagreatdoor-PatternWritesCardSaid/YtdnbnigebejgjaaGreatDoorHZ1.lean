/-
  When nodes are a tree, as the reference of package pattern checks it: chains of children one by one, purely; the same as the program's check.
  What the reference's walker finds out at a node, purely, from what it finds out at the node's children.
-/
import Derived.Test.YtdnbnigebejgjaaGreatDoorHC8
import Derived.Test.YtdnbnigebejgjaaGreatDoorHT4
namespace Go.Proofs.YtdnbnigebejgjaaGreatDoor
open Go.RowKit
def KL (L : List ND) (kd : Int) (nx : Nat) (k : Int) (e : Nat) : Prop := ∃ f, kl L f kd nx k = some e
theorem kl_nil (L : List ND) (f : Nat) (kd : Int) (nx : Nat) : kl L f kd nx (-1) = some nx := by cases f <;> rfl
theorem KL.nil (L : List ND) (kd : Int) (nx : Nat) : KL L kd nx (-1) nx := ⟨0, kl_nil L 0 kd nx⟩
theorem KL.nil_eq {L : List ND} {kd : Int} {nx e : Nat} (h : KL L kd nx (-1) e) : e = nx := by
  obtain ⟨f, h⟩ := h
  rw [kl_nil] at h
  injection h with h
  exact h.symm
theorem KL.cons {L : List ND} {kd : Int} {nx k2 e : Nat} (h0 : nx < L.length) (h1 : mayB kd L[nx].kind = true) (h2 : sndB L[nx] = true) (h3 : KL L L[nx].kind (nx + 1) L[nx].first k2) (h4 : KL L kd k2 L[nx].next e) : KL L kd nx (nx : Int) e := by
  obtain ⟨f, h3⟩ := h3
  obtain ⟨g, h4⟩ := h4
  refine ⟨f + g + 1, ?_⟩
  unfold kl
  rw [if_neg (by omega), dif_pos h0, if_pos ⟨rfl, h1, h2⟩, kl_up (by omega : f ≤ f + g) h3]
  exact kl_up (by omega) h4
theorem KL.inv {L : List ND} {kd : Int} {nx : Nat} {k : Int} {e : Nat} (h : KL L kd nx k e) (hk : k ≠ -1) : ∃ (h0 : nx < L.length) (k2 : Nat), k = (nx : Int) ∧ mayB kd L[nx].kind = true ∧ sndB L[nx] = true ∧ KL L L[nx].kind (nx + 1) L[nx].first k2 ∧ KL L kd k2 L[nx].next e := by
  obtain ⟨f, h⟩ := h
  cases f with
  | zero => unfold kl at h; rw [if_neg hk] at h; cases h
  | succ f =>
    unfold kl at h
    rw [if_neg hk] at h
    split at h
    · rename_i hlt
      split at h
      · rename_i hh
        split at h
        · cases h
        · rename_i k2 hk2
          exact ⟨hlt, k2, hh.1, hh.2.1, hh.2.2, ⟨f, hk2⟩, ⟨f, h⟩⟩
      · cases h
    · cases h
theorem KL.ge {L : List ND} {kd : Int} {nx : Nat} {k : Int} {e : Nat} (h : KL L kd nx k e) : nx ≤ e ∧ (nx ≤ L.length → e ≤ L.length) := by
  obtain ⟨f, h⟩ := h
  exact kl_ge L f _ _ _ _ h
theorem kl_fuel {L : List ND} : ∀ (f : Nat) (kd : Int) (nx : Nat) (k : Int) (e : Nat), kl L f kd nx k = some e → kl L (e - nx) kd nx k = some e
  | f, kd, nx, k, e, h => by
    by_cases hk : k = -1
    · subst hk
      rw [kl_nil] at h
      injection h with h
      subst h
      exact kl_nil _ _ _ _
    · cases f with
      | zero => unfold kl at h; rw [if_neg hk] at h; cases h
      | succ f =>
        unfold kl at h
        rw [if_neg hk] at h
        split at h
        · rename_i hlt
          split at h
          · rename_i hh
            split at h
            · cases h
            · rename_i k2 hk2
              have i1 := kl_fuel f _ _ _ _ hk2
              have i2 := kl_fuel f _ _ _ _ h
              have g1 := (kl_ge L _ _ _ _ _ hk2).1
              have g2 := (kl_ge L _ _ _ _ _ h).1
              obtain ⟨m, hm⟩ : ∃ m, e - nx = m + 1 := ⟨e - nx - 1, by omega⟩
              rw [hm]
              unfold kl
              rw [if_neg hk, dif_pos hlt, if_pos hh, kl_up (by omega : k2 - (nx + 1) ≤ m) i1]
              exact kl_up (by omega) i2
          · cases h
        · cases h
/-- What the reference asks of a node besides its children. -/
def ownR (n : ND) : Prop :=
  (n.kind = 1 ∧ n.set ≠ .empty ∧ 0 ≤ n.times ∧ n.times ≤ 3 ∧ n.group = 0 ∧ n.first = -1) ∨
  (n.kind = 2 ∧ n.set = .empty ∧ n.times = 0 ∧ n.group = 0) ∨
  (n.kind = 3 ∧ n.set = .empty ∧ n.times = 0 ∧ n.group = 0 ∧ n.first ≠ -1) ∨
  (n.kind = 4 ∧ n.set = .empty ∧ (n.times = 0 ∨ n.times = 3) ∧ n.first ≠ -1)
theorem own_snd (n : ND) : sndB n = true ↔ ownR n ∧ (n.kind = 3 → n.next = -1) := by
  have hz : n.set.isNone = true ↔ n.set = .empty := by unfold WSet.isNone; simp
  have hz2 : n.set.isNone = false ↔ n.set ≠ .empty := by unfold WSet.isNone; simp
  unfold sndB ownR
  by_cases h1 : n.kind = 1
  · rw [if_pos h1]
    simp only [Bool.and_eq_true, decide_eq_true_eq, Bool.not_eq_true', hz2]
    constructor
    · rintro ⟨⟨⟨⟨a, b⟩, c⟩, d⟩, e⟩
      exact ⟨.inl ⟨h1, c, d, e, b, a⟩, by omega⟩
    · rintro ⟨h, _⟩
      rcases h with ⟨_, c, d, e, b, a⟩ | ⟨k, _⟩ | ⟨k, _⟩ | ⟨k, _⟩
      · exact ⟨⟨⟨⟨a, b⟩, c⟩, d⟩, e⟩
      all_goals omega
  · rw [if_neg h1]
    by_cases h2 : n.kind = 2
    · rw [if_pos h2]
      simp only [Bool.and_eq_true, decide_eq_true_eq, hz]
      constructor
      · rintro ⟨⟨a, b⟩, c⟩
        exact ⟨.inr (.inl ⟨h2, b, a, c⟩), by omega⟩
      · rintro ⟨h, _⟩
        rcases h with ⟨k, _⟩ | ⟨_, b, a, c⟩ | ⟨k, _⟩ | ⟨k, _⟩
        · omega
        · exact ⟨⟨a, b⟩, c⟩
        all_goals omega
    · rw [if_neg h2]
      by_cases h3 : n.kind = 3
      · rw [if_pos h3]
        simp only [Bool.and_eq_true, decide_eq_true_eq, hz]
        constructor
        · rintro ⟨⟨⟨⟨a, b⟩, c⟩, d⟩, e⟩
          exact ⟨.inr (.inr (.inl ⟨h3, b, a, c, d⟩)), fun _ => e⟩
        · rintro ⟨h, hn⟩
          rcases h with ⟨k, _⟩ | ⟨k, _⟩ | ⟨_, b, a, c, d⟩ | ⟨k, _⟩
          · omega
          · omega
          · exact ⟨⟨⟨⟨a, b⟩, c⟩, d⟩, hn h3⟩
          · omega
      · rw [if_neg h3]
        by_cases h4 : n.kind = 4
        · rw [if_pos h4]
          simp only [Bool.and_eq_true, Bool.or_eq_true, decide_eq_true_eq, hz]
          constructor
          · rintro ⟨⟨a, b⟩, c⟩
            exact ⟨.inr (.inr (.inr ⟨h4, b, c, a⟩)), by omega⟩
          · rintro ⟨h, _⟩
            rcases h with ⟨k, _⟩ | ⟨k, _⟩ | ⟨k, _⟩ | ⟨_, b, c, a⟩
            · omega
            · omega
            · omega
            · exact ⟨⟨a, b⟩, c⟩
        · rw [if_neg h4]
          constructor
          · intro h; cases h
          · rintro ⟨h, _⟩
            rcases h with ⟨k, _⟩ | ⟨k, _⟩ | ⟨k, _⟩ | ⟨k, _⟩ <;> omega
/-- A node with all that is below it, which stands from nx to e. -/
def NodeOK (L : List ND) (n : ND) (nx e : Nat) : Prop := ownR n ∧ KL L n.kind nx n.first e
/-- A chain of children from nx to e, m of them, of kinds P. -/
inductive CHP (L : List ND) (P : Int → Prop) : Nat → Int → Nat → Nat → Prop where
  | nil (nx : Nat) : CHP L P nx (-1) nx 0
  | cons (nx k2 e m : Nat) (h : nx < L.length) : P L[nx].kind → NodeOK L L[nx] (nx + 1) k2 → CHP L P k2 L[nx].next e m → CHP L P nx (nx : Int) e (m + 1)
def CH (L : List ND) := CHP L (fun _ => True)
theorem CHP.inv {L : List ND} {P : Int → Prop} {nx : Nat} {k : Int} {e m : Nat} (h : CHP L P nx k e m) : (k = -1 ∧ e = nx ∧ m = 0) ∨ ∃ (h0 : nx < L.length) (k2 m' : Nat), k = (nx : Int) ∧ m = m' + 1 ∧ P L[nx].kind ∧ NodeOK L L[nx] (nx + 1) k2 ∧ CHP L P k2 L[nx].next e m' := by
  cases h with
  | nil => exact .inl ⟨rfl, rfl, rfl⟩
  | cons _ k2 _ m' h0 h1 h2 h3 => exact .inr ⟨h0, k2, m', rfl, rfl, h1, h2, h3⟩
theorem CHP.weak {L : List ND} {P : Int → Prop} {nx : Nat} {k : Int} {e m : Nat} (h : CHP L P nx k e m) : CH L nx k e m := by
  induction h with
  | nil nx => exact .nil nx
  | cons nx k2 e m h0 _ h2 _ ih => exact .cons nx k2 e m h0 trivial h2 ih
/-- The chain from x on as the reference walks it ahead: ascending, in the list, of kinds P. -/
inductive OF (L : List ND) (P : Int → Prop) (f0 : Int) : Int → Prop where
  | nil : OF L P f0 (-1)
  | cons (x : Nat) (h : x < L.length) : f0 ≤ (x : Int) → P L[x].kind → (L[x].next = -1 ∨ (x : Int) < L[x].next) → OF L P f0 L[x].next → OF L P f0 (x : Int)
theorem OF.inv {L : List ND} {P : Int → Prop} {f0 k : Int} (h : OF L P f0 k) : k = -1 ∨ ∃ (x : Nat) (h0 : x < L.length), k = (x : Int) ∧ f0 ≤ (x : Int) ∧ P L[x].kind ∧ (L[x].next = -1 ∨ (x : Int) < L[x].next) ∧ OF L P f0 L[x].next := by
  cases h with
  | nil => exact .inl rfl
  | cons x h0 h1 h2 h3 h4 => exact .inr ⟨x, h0, rfl, h1, h2, h3, h4⟩
theorem chp_of {L : List ND} {P : Int → Prop} {f0 : Int} {nx : Nat} {k : Int} {e m : Nat} (h : CH L nx k e m) : OF L P f0 k → CHP L P nx k e m := by
  induction h with
  | nil nx => exact fun _ => .nil nx
  | cons nx k2 e m h0 _ h2 _ ih =>
    intro ho
    rcases ho.inv with h | ⟨x, hx, e1, _, h4, _, h6⟩
    · omega
    · obtain rfl : nx = x := by omega
      exact .cons nx k2 e m h0 h4 h2 (ih h6)
theorem of_chp {L : List ND} {P : Int → Prop} {f0 : Int} {nx : Nat} {k : Int} {e m : Nat} (h : CHP L P nx k e m) : f0 ≤ (nx : Int) → OF L P f0 k := by
  induction h with
  | nil nx => exact fun _ => .nil
  | cons nx k2 e m h0 h1 h2 h3 ih =>
    intro hf
    have hg := h2.2.ge.1
    refine .cons nx h0 hf h1 ?_ (ih (by omega))
    rcases h3.inv with ⟨h, _⟩ | ⟨_, _, _, h, _⟩
    · exact .inl h
    · right
      rw [h]
      omega
theorem kl_chp {L : List ND} {kd : Int} (hkd : kd = 2 ∨ kd = 3) {nx : Nat} {k : Int} {e m : Nat} (h : CHP L (fun c => mayB kd c = true) nx k e m) : KL L kd nx k e := by
  induction h with
  | nil nx => exact KL.nil L kd nx
  | cons nx k2 e m h0 h1 h2 h3 ih =>
    refine KL.cons h0 h1 ((own_snd _).2 ⟨h2.1, fun h => ?_⟩) h2.2 ih
    rw [h] at h1
    rcases hkd with rfl | rfl <;> simp [mayB] at h1
theorem chp_kl {L : List ND} {kd : Int} : ∀ (f : Nat) (nx : Nat) (k : Int) (e : Nat), kl L f kd nx k = some e → ∃ m, CHP L (fun c => mayB kd c = true) nx k e m
  | f, nx, k, e, h => by
    by_cases hk : k = -1
    · subst hk
      rw [kl_nil] at h
      injection h with h
      subst h
      exact ⟨0, .nil nx⟩
    · cases f with
      | zero => unfold kl at h; rw [if_neg hk] at h; cases h
      | succ f =>
        unfold kl at h
        rw [if_neg hk] at h
        split at h
        · rename_i hlt
          split at h
          · rename_i hh
            split at h
            · cases h
            · rename_i k2 hk2
              obtain ⟨m, i⟩ := chp_kl f _ _ _ h
              rw [hh.1]
              exact ⟨m + 1, .cons nx k2 e m hlt hh.2.1 ⟨((own_snd _).1 hh.2.2).1, ⟨f, hk2⟩⟩ i⟩
          · cases h
        · cases h
/-- The one child of a group. -/
theorem kl_four {L : List ND} {nx : Nat} {k : Int} {e : Nat} (h : CHP L (fun c => mayB 4 c = true) nx k e 1) : KL L 4 nx k e ∧ k ≠ -1 := by
  rcases h.inv with ⟨_, _, h⟩ | ⟨h0, k2, m', rfl, hm, h1, h2, h3⟩
  · omega
  · obtain rfl : m' = 0 := by omega
    rcases h3.inv with ⟨h4, rfl, _⟩ | ⟨_, _, _, _, h4, _⟩
    · refine ⟨KL.cons h0 h1 ((own_snd _).2 ⟨h2.1, fun _ => h4⟩) h2.2 ?_, by omega⟩
      rw [h4]
      exact KL.nil _ _ _
    · omega
theorem four_kl {L : List ND} {nx : Nat} {k : Int} {e : Nat} (h : KL L 4 nx k e) (hk : k ≠ -1) : CHP L (fun c => mayB 4 c = true) nx k e 1 := by
  obtain ⟨h0, k2, rfl, h1, h2, h3, h4⟩ := h.inv hk
  have h5 := (own_snd _).1 h2
  have h6 := h5.2 (by simpa [mayB] using h1)
  rw [h6] at h4
  obtain rfl := h4.nil_eq
  refine .cons nx e e 0 h0 h1 ⟨h5.1, h3⟩ ?_
  rw [h6]
  exact .nil e
/-- The whole tree. -/
theorem tree_node {L : List ND} (h0 : 0 < L.length) (hk : L[0].kind = 3) (hn : L[0].next = -1) : treeB L = true ↔ NodeOK L L[0] 1 L.length := by
  have e0 : L.getD 0 (bare 0 .empty 0) = L[0] := by rw [List.getD_eq_getElem?_getD, List.getElem?_eq_getElem h0]; rfl
  constructor
  · intro h
    obtain ⟨_, _, f3⟩ := treeB_facts h
    have hs := beh_snd f3
    obtain ⟨_, h2, _, _⟩ := beh_open f3
    rw [e0] at hs h2
    exact ⟨((own_snd _).1 hs).1, ⟨_, h2⟩⟩
  · rintro ⟨h1, f, h2⟩
    have hs : sndB L[0] = true := (own_snd _).2 ⟨h1, fun _ => hn⟩
    have h3 := kl_up (by omega : L.length - 1 ≤ L.length) (kl_fuel _ _ _ _ _ h2)
    unfold treeB beh
    rw [dif_pos h0, if_pos hs, h3, e0, hk]
    simp [h0]
/-- The nodes from a on, before e. -/
def seg (L : List ND) (a e : Nat) : List ND := (L.drop a).take (e - a)
theorem seg_nil (L : List ND) (a : Nat) : seg L a a = [] := by unfold seg; rw [Nat.sub_self]; simp
theorem seg_all (L : List ND) : seg L 0 L.length = L := by unfold seg; simp
theorem seg_cons {L : List ND} {a e : Nat} (h : a < L.length) (he : a < e) : seg L a e = L[a] :: seg L (a + 1) e := by
  unfold seg
  rw [List.drop_eq_getElem_cons h, show e - a = (e - (a + 1)) + 1 by omega, List.take_succ_cons]
theorem seg_app {L : List ND} {a b e : Nat} (h1 : a ≤ b) (h2 : b ≤ e) : seg L a e = seg L a b ++ seg L b e := by
  unfold seg
  rw [show e - a = (b - a) + (e - b) by omega, List.take_add, List.drop_drop, show a + (b - a) = b by omega]
theorem gct_app : ∀ (A B : List ND), gct (A ++ B) = gct A + gct B
  | [], B => by simp [gct]
  | n :: A, B => by
    have := gct_app A B
    simp only [List.cons_append, gct]
    omega
theorem numOK_app : ∀ (A B : List ND) (c : Int), numOK (A ++ B) c = (numOK A c && numOK B (c + (gct A : Int)))
  | [], B, c => by simp [numOK, gct]
  | n :: A, B, c => by
    have i1 := numOK_app A B (c + 1)
    have i2 := numOK_app A B c
    simp only [List.cons_append, numOK, gct]
    split
    · rw [i1, Bool.and_assoc]
      congr 2
      congr 1
      omega
    · rw [i2, Nat.zero_add]
end Go.Proofs.YtdnbnigebejgjaaGreatDoor
namespace Go.Proofs.YtdnbnigebejgjaaGreatDoor
open Go.RowKit
theorem CHP.mono {L : List ND} {P Q : Int → Prop} (hPQ : ∀ c, P c → Q c) {nx : Nat} {k : Int} {e m : Nat} (h : CHP L P nx k e m) : CHP L Q nx k e m := by
  induction h with
  | nil nx => exact .nil nx
  | cons nx k2 e m h0 h1 h2 _ ih => exact .cons nx k2 e m h0 (hPQ _ h1) h2 ih
theorem CHP.first {L : List ND} {P : Int → Prop} {nx : Nat} {k : Int} {e m : Nat} (h : CHP L P nx k e m) : k ≤ (nx : Int) := by
  rcases h.inv with ⟨h, _⟩ | ⟨_, _, _, h, _⟩ <;> omega
theorem CHP.zero {L : List ND} {P : Int → Prop} {nx : Nat} {k : Int} {e m : Nat} (h : CHP L P nx k e m) : m = 0 ↔ k = -1 := by
  rcases h.inv with ⟨h, _, h2⟩ | ⟨_, _, _, h, h2, _⟩ <;> omega
def KidsRes (L : List ND) (nx gr : Nat) (bd nb : Bool) (k : Int) (n nx' gr' : Nat) (bd' nb' : Bool) : Prop :=
  n ≤ L.length ∧ nx ≤ nx' ∧ nx' ≤ L.length ∧ gr' ≤ nx' ∧ (bd = true → n = 0 ∧ bd' = true) ∧ (bd = false → bd' = false → CH L nx k nx' n ∧ gr' = gr + gct (seg L nx nx') ∧ nb' = (nb || !numOK (seg L nx nx') (gr : Int))) ∧ (bd = false → bd' = true → ∀ e m, ¬CH L nx k e m)
def NodeRes (L : List ND) (nx gr : Nat) (nb : Bool) (n : ND) (nx' gr' : Nat) (bd' nb' : Bool) : Prop :=
  nx ≤ nx' ∧ nx' ≤ L.length ∧ gr' ≤ nx' ∧ (bd' = false → NodeOK L n nx nx' ∧ gr' = gr + gct (n :: seg L nx nx') ∧ nb' = (nb || !numOK (n :: seg L nx nx') (gr : Int))) ∧ (bd' = true → ∀ e, ¬NodeOK L n nx e)
theorem may2 (c : Int) : mayB 2 c = true ↔ c = 1 ∨ c = 4 := by simp [mayB]
theorem may3 (c : Int) : mayB 3 c = true ↔ c = 2 ∨ c = 2 := by simp [mayB]
theorem may4 (c : Int) : mayB 4 c = true ↔ c = 3 ∨ c = 3 := by simp [mayB]
/-- Children of a node of kind 2 or 3. -/
theorem kids_kl {L : List ND} {kd a c : Int} (hkd : kd = 2 ∨ kd = 3) (hac : ∀ x, mayB kd x = true ↔ x = a ∨ x = c) {nx gr nx' gr' n : Nat} {bd1 bd2 nb nb' : Bool} {k : Int} (hof : bd1 = false ↔ OF L (fun x => x = a ∨ x = c) k k) (h : KidsRes L nx gr bd1 nb k n nx' gr' bd2 nb') :
    (bd2 = false → KL L kd nx k nx' ∧ CH L nx k nx' n ∧ gr' = gr + gct (seg L nx nx') ∧ nb' = (nb || !numOK (seg L nx nx') (gr : Int))) ∧ (bd2 = true → ∀ e, ¬KL L kd nx k e) := by
  obtain ⟨_, _, _, _, h1, h2, h3⟩ := h
  constructor
  · intro hb
    have hb1 : bd1 = false := by
      cases hh : bd1 with
      | false => rfl
      | true => rw [(h1 hh).2] at hb; cases hb
    obtain ⟨a1, a2, a3⟩ := h2 hb1 hb
    have a4 := chp_of a1 (hof.1 hb1)
    exact ⟨kl_chp hkd (a4.mono fun c h => (hac c).2 h), a1, a2, a3⟩
  · rintro hb e ⟨f, hk⟩
    obtain ⟨m, hc⟩ := chp_kl f nx k e hk
    have hb1 : bd1 = false := hof.2 (of_chp (hc.mono fun c h => (hac c).1 h) hc.first)
    exact h3 hb1 hb e m hc.weak
theorem gct_no {n : ND} {R : List ND} (h : n.kind ≠ 4) : gct (n :: R) = gct R ∧ ∀ c, numOK (n :: R) c = numOK R c := by
  refine ⟨?_, fun c => ?_⟩
  · rw [gct, if_neg h, Nat.zero_add]
  · rw [numOK, if_neg h]
theorem atom_res {L : List ND} {nx gr : Nat} {nb : Bool} {n : ND} (hk : n.kind = 1) (hnx : nx ≤ L.length) (hgr : gr + 1 ≤ nx) {bd : Bool} (hb : bd = false ↔ n.set ≠ .empty ∧ 0 ≤ n.times ∧ n.times ≤ 3 ∧ n.group = 0 ∧ n.first = -1) : NodeRes L nx gr nb n nx gr bd nb := by
  have hg := gct_no (n := n) (R := seg L nx nx) (by omega)
  refine ⟨Nat.le_refl _, hnx, by omega, fun h => ?_, fun h e ho => ?_⟩
  · obtain ⟨a1, a2, a3, a4, a5⟩ := hb.1 h
    refine ⟨⟨.inl ⟨hk, a1, a2, a3, a4, a5⟩, by rw [a5]; exact KL.nil _ _ _⟩, ?_, ?_⟩
    · rw [hg.1, seg_nil]; rfl
    · rw [hg.2, seg_nil]; simp [numOK]
  · rcases ho.1 with ⟨_, a⟩ | ⟨k, _⟩ | ⟨k, _⟩ | ⟨k, _⟩
    · rw [hb.2 a] at h; cases h
    all_goals omega
theorem other_res {L : List ND} {nx gr : Nat} {nb : Bool} {n : ND} (h1 : n.kind ≠ 1) (h2 : n.kind ≠ 2) (h3 : n.kind ≠ 3) (h4 : n.kind ≠ 4) (hnx : nx ≤ L.length) (hgr : gr + 1 ≤ nx) : NodeRes L nx gr nb n nx gr true nb := by
  refine ⟨Nat.le_refl _, hnx, by omega, fun h => (by cases h), fun _ e ho => ?_⟩
  rcases ho.1 with ⟨k, _⟩ | ⟨k, _⟩ | ⟨k, _⟩ | ⟨k, _⟩
  · exact h1 k
  · exact h2 k
  · exact h3 k
  · exact h4 k
theorem seq_res {L : List ND} {nx gr nx' gr' m : Nat} {nb nb' bd1 bd2 pl : Bool} {n : ND} (hk : n.kind = 2) (hof : bd1 = false ↔ OF L (fun x => x = 1 ∨ x = 4) n.first n.first) (h : KidsRes L nx gr bd1 nb n.first m nx' gr' bd2 nb') (hp : pl = true ↔ n.set = .empty ∧ n.times = 0 ∧ n.group = 0) : NodeRes L nx gr nb n nx' gr' (bd2 || !pl) nb' := by
  have hg := gct_no (n := n) (R := seg L nx nx') (by omega)
  obtain ⟨k1, k2⟩ := kids_kl (.inl rfl) may2 hof h
  refine ⟨h.2.1, h.2.2.1, h.2.2.2.1, fun hb => ?_, fun hb e ho => ?_⟩
  · have hb2 : bd2 = false := by cases bd2 <;> simp_all
    have hpl : pl = true := by cases pl <;> simp_all
    obtain ⟨a1, _, a2, a3⟩ := k1 hb2
    obtain ⟨p1, p2, p3⟩ := hp.1 hpl
    refine ⟨⟨.inr (.inl ⟨hk, p1, p2, p3⟩), by rw [hk]; exact a1⟩, ?_, ?_⟩
    · rw [hg.1, a2]
    · rw [hg.2, a3]
  · have ho2 := ho.2
    rw [hk] at ho2
    rcases ho.1 with ⟨k, _⟩ | ⟨_, a⟩ | ⟨k, _⟩ | ⟨k, _⟩
    · omega
    · rw [hp.2 a] at hb
      cases bd2 with
      | false => cases hb
      | true => exact k2 rfl e ho2
    all_goals omega
theorem cho_res {L : List ND} {nx gr nx' gr' m : Nat} {nb nb' bd1 bd2 pl : Bool} {n : ND} (hk : n.kind = 3) (hof : bd1 = false ↔ OF L (fun x => x = 2 ∨ x = 2) n.first n.first) (h : KidsRes L nx gr bd1 nb n.first m nx' gr' bd2 nb') (hp : pl = true ↔ n.set = .empty ∧ n.times = 0 ∧ n.group = 0) : NodeRes L nx gr nb n nx' gr' (if m = 0 ∨ pl = false then true else bd2) nb' := by
  have hg := gct_no (n := n) (R := seg L nx nx') (by omega)
  obtain ⟨k1, k2⟩ := kids_kl (.inr rfl) may3 hof h
  refine ⟨h.2.1, h.2.2.1, h.2.2.2.1, fun hb => ?_, fun hb e ho => ?_⟩
  · split at hb
    · cases hb
    · rename_i hh
      obtain ⟨a1, a4, a2, a3⟩ := k1 hb
      have hpl : pl = true := by cases pl <;> simp_all
      obtain ⟨p1, p2, p3⟩ := hp.1 hpl
      have hf : n.first ≠ -1 := fun e => hh (.inl (a4.zero.2 e))
      refine ⟨⟨.inr (.inr (.inl ⟨hk, p1, p2, p3, hf⟩)), by rw [hk]; exact a1⟩, ?_, ?_⟩
      · rw [hg.1, a2]
      · rw [hg.2, a3]
  · have ho2 := ho.2
    rw [hk] at ho2
    rcases ho.1 with ⟨k, _⟩ | ⟨k, _⟩ | ⟨_, p1, p2, p3, hf⟩ | ⟨k, _⟩
    · omega
    · omega
    · have hpl := hp.2 ⟨p1, p2, p3⟩
      cases hb2 : bd2 with
      | true => exact k2 hb2 e ho2
      | false =>
        obtain ⟨a1, a4, _, _⟩ := k1 hb2
        rw [if_neg, hb2] at hb
        · cases hb
        · rintro (h0 | h0)
          · exact hf (a4.zero.1 h0)
          · rw [hpl] at h0; cases h0
    · omega
theorem par_res {L : List ND} {nx gr nx' gr' m : Nat} {nb nb' bd1 bd2 pl : Bool} {n : ND} (hk : n.kind = 4) (hof : bd1 = false ↔ OF L (fun x => x = 3 ∨ x = 3) n.first n.first) (h : KidsRes L nx (gr + 1) bd1 (nb || !decide (n.group = (gr : Int) + 1)) n.first m nx' gr' bd2 nb') (hp : pl = true ↔ n.set = .empty ∧ (n.times = 0 ∨ n.times = 3)) : NodeRes L nx gr nb n nx' gr' (if m = 1 ∧ pl = true then bd2 else true) nb' := by
  obtain ⟨_, b1, b2, b3, h1, h2, h3⟩ := h
  refine ⟨b1, b2, b3, fun hb => ?_, fun hb e ho => ?_⟩
  · split at hb
    · rename_i hh
      have hb1 : bd1 = false := by
        cases hh2 : bd1 with
        | false => rfl
        | true => rw [(h1 hh2).2] at hb; cases hb
      obtain ⟨a1, a2, a3⟩ := h2 hb1 hb
      have a4 := chp_of a1 (hof.1 hb1)
      rw [hh.1] at a4
      obtain ⟨a5, a6⟩ := kl_four (a4.mono fun c h => (may4 c).2 h)
      obtain ⟨p1, p2⟩ := hp.1 hh.2
      refine ⟨⟨.inr (.inr (.inr ⟨hk, p1, p2, a6⟩)), by rw [hk]; exact a5⟩, ?_, ?_⟩
      · rw [gct, if_pos hk, a2]; omega
      · rw [numOK, if_pos hk, a3]
        have e : ((gr + 1 : Nat) : Int) = (gr : Int) + 1 := by omega
        rw [e]
        cases nb <;> cases decide (n.group = (gr : Int) + 1) <;> simp
    · cases hb
  · have ho2 := ho.2
    rw [hk] at ho2
    rcases ho.1 with ⟨k, _⟩ | ⟨k, _⟩ | ⟨k, _⟩ | ⟨_, p1, p2, hf⟩
    · omega
    · omega
    · omega
    · have hpl := hp.2 ⟨p1, p2⟩
      have hc := four_kl ho2 hf
      have hb1 : bd1 = false := hof.2 (of_chp (hc.mono fun c h => (may4 c).1 h) hc.first)
      cases hb2 : bd2 with
      | true => exact h3 hb1 hb2 e 1 hc.weak
      | false =>
        obtain ⟨a1, _, _⟩ := h2 hb1 hb2
        have a4 := chp_of a1 (hof.1 hb1)
        rcases a4.inv with ⟨h, _⟩ | ⟨h0, q2, m', hx, hm, q3, q4, q5⟩
        · exact hf h
        · obtain ⟨h0', q2', hx', q1', q3', q4', q5'⟩ := ho2.inv hf
          have hn := ((own_snd _).1 q3').2 (by rcases (may4 _).1 q1' with h | h <;> exact h)
          rw [hn] at q5
          rcases q5.inv with ⟨_, _, hm0⟩ | ⟨_, _, _, hh, _⟩
          · rw [if_pos ⟨by omega, hpl⟩, hb2] at hb
            cases hb
          · omega
end Go.Proofs.YtdnbnigebejgjaaGreatDoor
