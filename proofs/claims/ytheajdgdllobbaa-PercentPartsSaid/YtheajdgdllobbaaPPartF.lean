/-
  Where a text is cut, and what its beginning says. No condition.
-/
import Derived.Test.YtheajdgdllobbaaPJoinF
import Derived.Test.YtheajdgdllobbaaPProg
namespace Go.Proofs.Ytheajdgdllobbaa
open Go.RowKit
theorem dec_empty {l : List UInt8} {i : Nat} (h : decL l i = .ok []) : l = [] := by
  cases l with
  | nil => rfl
  | cons c r =>
    have h0 : decL ((c :: r).drop 0) 0 = .ok [] := decF_shift _ _ _ 0 _ h
    obtain ⟨c', t', e, -⟩ := dec_next (l := c :: r) (i := 0) (by simp) h0
    cases e
theorem offF_all {l t : List UInt8} (h : decL l 0 = .ok t) : offF l t.length = l.length := by
  obtain ⟨h1, h2⟩ := offF_at h t.length (Nat.le_refl _)
  rw [List.drop_length] at h2
  have := dec_empty h2
  have h3 := congrArg List.length this
  rw [List.length_drop] at h3
  simp at h3
  omega
/-- One piece: what stands at i, as long as its step, says one byte. -/
theorem dec_piece {l t : List UInt8} {i : Nat} (hi : i < l.length) (hd : decL (l.drop i) i = .ok t) (j : Nat) : ∃ c t', t = c :: t' ∧ decL ((l.drop i).take (stepB (l.drop i))) j = .ok [c] := by
  cases he : escB (l.drop i)
  · have hs : stepB (l.drop i) = 1 := by unfold stepB; rw [he]; rfl
    rw [hs]
    have hx := List.drop_eq_getElem_cons hi
    rw [hx] at hd he ⊢
    by_cases hc : l[i] = 37
    · rw [hc] at he hd
      rw [decL_bad i he] at hd
      cases hd
    · rw [decL_plain i hc] at hd
      cases hy : decL (l.drop (i + 1)) (i + 1) with
      | error e => rw [hy] at hd; cases hd
      | ok t' =>
        rw [hy] at hd
        injection hd with hd
        refine ⟨l[i], t', hd.symm, ?_⟩
        show decL [l[i]] j = _
        rw [decL_plain j hc]
        rfl
  · have hs : stepB (l.drop i) = 3 := by unfold stepB; rw [he]; rfl
    rw [hs]
    have h3 : i + 2 < l.length := by
      apply Classical.byContradiction
      intro hn
      rw [escB_short (by omega)] at he
      cases he
    have hx := drop3 h3
    rw [decL_esc i he, List.drop_drop] at hd
    cases hy : decL (l.drop (i + 3)) (i + 3) with
    | error e => rw [hy] at hd; cases hd
    | ok t' =>
      rw [hy] at hd
      injection hd with hd
      refine ⟨escV (l.drop i), t', hd.symm, ?_⟩
      have he2 : escB [l[i], l[i + 1], l[i + 2]] = true := by rw [hx] at he; exact he
      have ht : (l.drop i).take 3 = [l[i], l[i + 1], l[i + 2]] := by rw [hx]; rfl
      have hv : escV (l.drop i) = escV [l[i], l[i + 1], l[i + 2]] := by rw [hx]; rfl
      rw [ht, decL_esc j he2, hv]
      rfl
theorem offF_take {l t : List UInt8} (h : decL l 0 = .ok t) : ∀ j, j ≤ t.length → decL (l.take (offF l j)) 0 = .ok (t.take j)
  | 0, _ => by
    show decL (l.take 0) 0 = .ok (t.take 0)
    rw [List.take_zero, List.take_zero]; rfl
  | j + 1, hj => by
    have ih := offF_take h j (by omega)
    have hlt := offF_lt h j (by omega)
    have hat := offF_at h j (by omega)
    have hp := fun q => dec_piece hlt hat.2 q
    have ht : t.drop j = t[j] :: t.drop (j + 1) := List.drop_eq_getElem_cons (by omega)
    have e : l.take (offF l (j + 1)) = l.take (offF l j) ++ (l.drop (offF l j)).take (stepB (l.drop (offF l j))) := by
      show l.take (offF l j + stepB (l.drop (offF l j))) = _
      rw [List.take_add]
    have hpc : ∀ q, decL ((l.drop (offF l j)).take (stepB (l.drop (offF l j)))) q = .ok [t[j]] := fun q => by
      obtain ⟨c, t', e1, e2⟩ := hp q
      rw [ht] at e1
      injection e1 with e1 _
      rw [e2, e1]
    rw [e, dec_app hpc _ _ 0 _ ih, List.take_succ_eq_append_getElem (by omega)]
theorem cutF_off {l t : List UInt8} {n : Int} (h : decL l 0 = .ok t) : ∀ (k j : Nat), j ≤ t.length → ∃ j', j' ≤ t.length ∧ cutF l n k (offF l j) = offF l j'
  | 0, j, hj => ⟨j, hj, rfl⟩
  | k + 1, j, hj => by
    by_cases hc : offF l j < l.length ∧ (offF l j : Int) + (stepB (l.drop (offF l j)) : Nat) ≤ n
    · have hjt : j < t.length := by
        apply Classical.byContradiction
        intro hn
        have : j = t.length := by omega
        rw [this, offF_all h] at hc
        omega
      obtain ⟨j', h1, h2⟩ := cutF_off h k (j + 1) hjt
      exact ⟨j', h1, by rw [cutF, if_pos hc]; exact h2⟩
    · exact ⟨j, hj, cutF_stop hc _⟩
/-- All that is said of a cut. -/
theorem cut_all {l t : List UInt8} {n : Nat} (hn : n ≤ l.length) (h : decL l 0 = .ok t) : ∃ j, j ≤ t.length ∧ cutF l (n : Int) l.length 0 = offF l j ∧ offF l j ≤ n ∧ n - offF l j ≤ 2 ∧
    decL (l.take (offF l j)) 0 = .ok (t.take j) ∧ (n = offF l j ∨ (offF l j < l.length ∧ l[offF l j]? = some 37)) := by
  obtain ⟨j, hj, hc⟩ := cutF_off (n := (n : Int)) h l.length 0 (Nat.zero_le _)
  obtain ⟨c, t', e, -, hcl, hcn, hb, hdc, hend⟩ := cutF_spec (l := l) (n := (n : Int)) l.length 0 t (by omega) (by omega) (by omega) (fun p hp => by omega) h
  have e2 : c = offF l j := e.symm.trans hc
  subst e2
  refine ⟨j, hj, e, by omega, ?_, offF_take h j hj, ?_⟩
  · rcases hend with hend | hend
    · omega
    · by_cases hlt : offF l j < l.length
      · have := (stepB_le hlt).2.1
        omega
      · omega
  · by_cases hx : n = offF l j
    · exact Or.inl hx
    · right
      have hlt : offF l j < l.length := by omega
      refine ⟨hlt, ?_⟩
      obtain ⟨-, h37, hor⟩ := hb.next hlt hdc
      rcases hend with hend | hend
      · omega
      · exact h37.1 (by omega)
/-- The pieces that the law makes of numbers. -/
def hexD : List UInt8 := [48, 49, 50, 51, 52, 53, 54, 55, 56, 57, 97, 98, 99, 100, 101, 102, 65, 66, 67, 68, 69, 70]
def othD : List UInt8 := [97, 98, 99, 47, 46, 45]
def tok (m : Nat) : List UInt8 := if m % 3 = 0 then [37, (hexD[m / 3 % 22]?).getD 0, (hexD[m / 66 % 15]?).getD 0] else [(othD[m / 3 % 6]?).getD 0]
theorem hexD_hex : ∀ n : Fin 22, isHex ((hexD[n.val]?).getD 0) = true := by decide +kernel
theorem othD_not : ∀ n : Fin 6, (othD[n.val]?).getD 0 ≠ 37 := by decide +kernel
theorem dec_tok (m : Nat) : ∃ c, ∀ i, decL (tok m) i = .ok [c] := by
  unfold tok
  split
  · have h1 := hexD_hex ⟨m / 3 % 22, by omega⟩
    have h2 := hexD_hex ⟨m / 66 % 15, by omega⟩
    simp only at h1 h2
    have he : escB [37, (hexD[m / 3 % 22]?).getD 0, (hexD[m / 66 % 15]?).getD 0] = true := by
      show ((37 : UInt8) == 37 && isHex _ && isHex _) = true
      rw [h1, h2]; rfl
    exact ⟨_, fun i => by rw [decL_esc i he]; rfl⟩
  · have h1 := othD_not ⟨m / 3 % 6, by omega⟩
    exact ⟨_, fun i => by rw [decL_plain i h1]; rfl⟩
theorem tok_length (m : Nat) : (tok m).length ≤ 3 := by
  unfold tok; split <;> simp
theorem dec_more {o t : List UInt8} (m : Nat) (h : decL o 0 = .ok t) : ∃ t', decL (o ++ tok m) 0 = .ok t' := by
  obtain ⟨c, hc⟩ := dec_tok m
  exact ⟨_, dec_app hc _ _ 0 _ h⟩
end Go.Proofs.Ytheajdgdllobbaa
