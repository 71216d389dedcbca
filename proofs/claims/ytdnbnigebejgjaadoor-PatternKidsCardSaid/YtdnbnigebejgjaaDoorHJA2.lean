/-
  The children of all nodes of a tree: each number but the root's stands among them once, and they ascend.
-/
import Derived.Test.YtdnbnigebejgjaaDoorHC12
namespace Go.Proofs.YtdnbnigebejgjaaDoor
open Go.RowKit
/-- How often x is a child of n nodes, from node a on. -/
def sumK (L : List ND) (x : Int) (a : Nat) : Nat → Nat
  | 0 => 0
  | n + 1 => sumK L x a n + (kidL L (a + n)).count x
theorem sumK_add (L : List ND) (x : Int) (a m : Nat) : ∀ n, sumK L x a (m + n) = sumK L x a m + sumK L x (a + m) n
  | 0 => rfl
  | n + 1 => by
    have e1 : sumK L x a (m + (n + 1)) = sumK L x a (m + n) + (kidL L (a + (m + n))).count x := rfl
    have e2 : sumK L x (a + m) (n + 1) = sumK L x (a + m) n + (kidL L (a + m + n)).count x := rfl
    rw [e1, e2, sumK_add L x a m n, Nat.add_assoc a m n, Nat.add_assoc]
theorem sumK_one (L : List ND) (x : Int) (a : Nat) : sumK L x a 1 = (kidL L a).count x := by
  show 0 + (kidL L (a + 0)).count x = _
  rw [Nat.zero_add, Nat.add_zero]
theorem kl_count (L : List ND) (x : Int) : ∀ (f F : Nat) (kd : Int) (nx : Nat) (k : Int) (e : Nat), kl L f kd nx k = some e → L.length + 1 ≤ nx + F →
    (chn L F k).count x + sumK L x nx (e - nx) = if (nx : Int) ≤ x ∧ x < (e : Int) then 1 else 0
  | f, F, kd, nx, k, e, h, hF => by
    by_cases hk : k = -1
    · subst hk
      have : kl L f kd nx (-1) = some nx := by cases f <;> rfl
      rw [this] at h
      injection h with h
      subst h
      rw [chn_none, Nat.sub_self, if_neg (by omega)]
      rfl
    · obtain ⟨f', rfl, rfl, hlt, k2, hb, hk2⟩ := kl_open h hk
      obtain ⟨_, hb1, hb2, hb3⟩ := beh_open hb
      have he := kl_ge L _ _ _ _ _ hk2
      obtain ⟨F', rfl⟩ : ∃ F', F = F' + 1 := ⟨F - 1, by omega⟩
      have i1 := kl_count L x f' (L.length + 1) _ _ _ _ hb1 (by omega)
      have i2 := kl_count L x f' F' _ _ _ _ hk2 (by omega)
      rw [chn_next (by omega) (by omega), Int.toNat_natCast, List.count_cons]
      have e1 : e - nx = (1 + (k2 - (nx + 1))) + (e - k2) := by omega
      rw [e1, sumK_add, sumK_add, sumK_one, show nx + (1 + (k2 - (nx + 1))) = k2 by omega]
      have i1' : (kidL L nx).count x + sumK L x (nx + 1) (k2 - (nx + 1)) = if ((nx + 1 : Nat) : Int) ≤ x ∧ x < (k2 : Int) then 1 else 0 := i1
      have e2 : (((nx : Int) == x) = true) ↔ (nx : Int) = x := by simp
      simp only [e2]
      split <;> split at i1' <;> split at i2 <;> split <;> omega
/-- Ascending from a number on, all less than n. -/
def ascK : Int → List Int → Int → Prop
  | _, [], _ => True
  | a, x :: r, n => a < x ∧ x < n ∧ ascK x r n
theorem kl_asc (L : List ND) : ∀ (f F : Nat) (kd : Int) (nx : Nat) (k : Int) (e : Nat), kl L f kd nx k = some e → ∀ a : Int, a < nx → ascK a (chn L F k) L.length
  | f, F, kd, nx, k, e, h, a, ha => by
    by_cases hk : k = -1
    · subst hk; rw [chn_none]; exact True.intro
    · obtain ⟨f', rfl, rfl, hlt, k2, hb, hk2⟩ := kl_open h hk
      obtain ⟨_, hb1, hb2, hb3⟩ := beh_open hb
      cases F with
      | zero =>
        unfold chn
        rw [if_neg hk]
        exact ⟨ha, by omega, True.intro⟩
      | succ F =>
        rw [chn_next (by omega) (by omega), Int.toNat_natCast]
        exact ⟨ha, by omega, kl_asc L f' F _ _ _ _ hk2 _ (by omega)⟩
theorem ascK_at : ∀ (l : List Int) (a n : Int), ascK a l n → ∀ k, k < l.length → (if k = 0 then a else l.getD (k - 1) 0) < l.getD k 0 ∧ l.getD k 0 < n
  | [], _, _, _, k, hk => by simp at hk
  | x :: r, a, n, h, 0, _ => ⟨h.1, h.2.1⟩
  | x :: r, a, n, h, k + 1, hk => by
    have i := ascK_at r x n h.2.2 k (by simpa using hk)
    rw [if_neg (by omega)]
    cases k with
    | zero => exact i
    | succ k => exact i
/-- A tree without an error: each number but the root's is a child of one node. -/
theorem tree_count {L : List ND} {g : Int} (h : chkR L g = 0) (x : Nat) (hx : x < L.length) : (if x = 0 then 1 else 0) + sumK L (x : Int) 0 L.length = 1 := by
  obtain ⟨_, ht, _⟩ := chk_zero h
  obtain ⟨f1, f2, f3⟩ := treeB_facts ht
  obtain ⟨b1, b2, b3, b4⟩ := beh_open f3
  have i := kl_count L (x : Int) _ (L.length + 1) _ _ _ _ b2 (by omega)
  have e : L.length = 1 + (L.length - (0 + 1)) := by omega
  have e2 : sumK L (x : Int) 0 L.length = (kidL L 0).count (x : Int) + sumK L (x : Int) 1 (L.length - (0 + 1)) := by
    rw [e, sumK_add, sumK_one, ← e]
  have i' : (kidL L 0).count (x : Int) + sumK L (x : Int) 1 (L.length - (0 + 1)) = if ((0 + 1 : Nat) : Int) ≤ (x : Int) ∧ (x : Int) < (L.length : Int) then 1 else 0 := i
  rw [e2, i']
  split <;> split <;> omega
theorem tree_asc {L : List ND} {g : Int} (h : chkR L g = 0) (i : Nat) (hi : i < L.length) : ascK (i : Int) (kidL L i) L.length := by
  obtain ⟨_, ht, _⟩ := chk_zero h
  obtain ⟨f1, f2, f3⟩ := treeB_facts ht
  obtain ⟨k, hk, _, _⟩ := beh_all f3 i (Nat.zero_le _) hi
  obtain ⟨_, b2, _, _⟩ := beh_open hk
  exact kl_asc L _ _ _ _ _ _ b2 _ (by omega)
theorem sumK_le {L : List ND} {g : Int} (h : chkR L g = 0) (x : Nat) (hx : x < L.length) (i : Nat) (hi : i ≤ L.length) : (if x = 0 then 1 else 0) + sumK L (x : Int) 0 i ≤ 1 := by
  have := tree_count h x hx
  have e : L.length = i + (L.length - i) := by omega
  rw [e, sumK_add] at this
  omega
end Go.Proofs.YtdnbnigebejgjaaDoor
