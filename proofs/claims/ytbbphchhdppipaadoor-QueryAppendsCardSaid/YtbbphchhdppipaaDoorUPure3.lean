/-
  What is joined is read back; canonical forms; two queries together: purely. No condition.
-/
import Derived.Test.YtbbphchhdppipaaDoorUPure2
namespace Go.Proofs.YtbbphchhdppipaaDoor
open Go.RowKit
theorem joinF_false : ∀ (L : List Pr) (O : List UInt8), joinF O false L = O ++ L.flatMap (fun x => 38 :: pieceL x)
  | [], O => by simp [joinF]
  | p :: r, O => by
    rw [joinF, joinF_false r]
    simp
theorem joinL_cons (p : Pr) (r : List Pr) : joinL (p :: r) = pieceL p ++ r.flatMap (fun x => 38 :: pieceL x) := by
  unfold joinL
  rw [joinF, joinF_false]
  simp
theorem cutS_last : ∀ (x cur : List UInt8), (x.all fun c => !(c == 38)) = true → cutS cur x = [cur ++ x]
  | [], cur, _ => by simp [cutS]
  | c :: r, cur, h => by
    rw [List.all_cons, Bool.and_eq_true] at h
    have hc : ¬ c.toNat = 38 := fun e => by
      have : c = 38 := UInt8.toNat_inj.1 e
      rw [this] at h
      exact absurd h.1 (by decide)
    rw [cutS, if_neg hc, cutS_last r _ h.2]
    simp
theorem cutS_mid : ∀ (x cur y : List UInt8), (x.all fun c => !(c == 38)) = true → cutS cur (x ++ 38 :: y) = (cur ++ x) :: cutS [] y
  | [], cur, y, _ => by simp [cutS]
  | c :: r, cur, y, h => by
    rw [List.all_cons, Bool.and_eq_true] at h
    have hc : ¬ c.toNat = 38 := fun e => by
      have : c = 38 := UInt8.toNat_inj.1 e
      rw [this] at h
      exact absurd h.1 (by decide)
    rw [List.cons_append, cutS, if_neg hc, cutS_mid r _ y h.2]
    simp
theorem cutS_app : ∀ (m cur q : List UInt8), cutS cur (m ++ 38 :: q) = cutS cur m ++ cutS [] q
  | [], cur, q => by simp [cutS]
  | c :: r, cur, q => by
    rw [List.cons_append, cutS, cutS]
    split
    · rw [cutS_app r [] q]
      rfl
    · exact cutS_app r _ q
theorem cut_tails : ∀ (r : List Pr) (x : List UInt8), (x.all fun c => !(c == 38)) = true → (∀ y ∈ r, ((pieceL y).all fun c => !(c == 38)) = true) → cutS [] (x ++ r.flatMap (fun y => 38 :: pieceL y)) = x :: r.map pieceL
  | [], x, h, _ => by
    rw [List.flatMap_nil, List.append_nil, cutS_last x [] h]
    rfl
  | y :: r, x, h, hr => by
    rw [List.flatMap_cons, List.cons_append, cutS_mid x [] _ h, cut_tails r (pieceL y) (hr y (by simp)) (fun z hz => hr z (by simp [hz]))]
    rfl
theorem stay_no38 : ∀ n, n < 256 → stayS.has n = true → n ≠ 38 ∧ n ≠ 61 := by decide +kernel
theorem hex_no38 : ∀ n, n < 16 → (!(hexU n == 38) && !(hexU n == 61)) = true := by decide +kernel
theorem stay_qry : ∀ n, n < 256 → stayS.has n = true → qryS.has n = true := by decide +kernel
theorem hex_qry : ∀ n, n < 16 → qryS.has (hexU n).toNat = true := by decide +kernel
theorem code_no38 (l : List UInt8) : ((codeL l).all fun c => !(c == 38)) = true :=
  code_mem (fun z h => by
    have := (stay_no38 _ (UInt8.toNat_lt z) h).1
    simp only [Bool.not_eq_true', beq_eq_false_iff_ne]
    rintro rfl
    exact this rfl) (by decide) (fun n h => (Bool.and_eq_true_iff.1 (hex_no38 n h)).1) l
theorem code_no61 (l : List UInt8) : ((codeL l).all fun c => !(c == 61)) = true :=
  code_mem (fun z h => by
    have := (stay_no38 _ (UInt8.toNat_lt z) h).2
    simp only [Bool.not_eq_true', beq_eq_false_iff_ne]
    rintro rfl
    exact this rfl) (by decide) (fun n h => (Bool.and_eq_true_iff.1 (hex_no38 n h)).2) l
theorem code_qry (l : List UInt8) : ((codeL l).all fun c => qryS.has c.toNat) = true :=
  code_mem (fun z h => stay_qry _ (UInt8.toNat_lt z) h) (by decide +kernel) hex_qry l
theorem piece_no38 (p : Pr) : ((pieceL p).all fun c => !(c == 38)) = true := by
  unfold pieceL
  split
  · exact code_no38 _
  · rw [List.all_append, List.all_cons, code_no38, code_no38]
    rfl
theorem piece_qry (p : Pr) : ((pieceL p).all fun c => qryS.has c.toNat) = true := by
  unfold pieceL
  split
  · exact code_qry _
  · rw [List.all_append, List.all_cons, code_qry, code_qry]
    decide +kernel
theorem cutB_last : ∀ (x : List UInt8), (x.all fun c => !(c == 61)) = true → cutB 61 x = (x, [], false)
  | [], _ => rfl
  | c :: r, h => by
    rw [List.all_cons, Bool.and_eq_true] at h
    have hc : ¬ c = 61 := fun e => by
      rw [e] at h
      exact absurd h.1 (by decide)
    rw [cutB, if_neg hc, cutB_last r h.2]
theorem cutB_mid : ∀ (x y : List UInt8), (x.all fun c => !(c == 61)) = true → cutB 61 (x ++ 61 :: y) = (x, y, true)
  | [], y, _ => by simp [cutB]
  | c :: r, y, h => by
    rw [List.all_cons, Bool.and_eq_true] at h
    have hc : ¬ c = 61 := fun e => by
      rw [e] at h
      exact absurd h.1 (by decide)
    rw [List.cons_append, cutB, if_neg hc, cutB_mid r y h.2]
theorem prOf_piece {p : Pr} (h : badP p = false) : unP (prOf (pieceL p)) = p ∧ okP (prOf (pieceL p)) = true := by
  obtain ⟨nm, vl, br⟩ := p
  cases br with
  | true =>
    have hvl : vl = [] := by
      unfold badP at h
      simp only [Bool.true_and, Bool.or_eq_false_iff, Bool.not_eq_false', beq_iff_eq] at h
      exact h.2
    subst hvl
    have e : pieceL ⟨nm, [], true⟩ = codeL nm := rfl
    rw [e]
    unfold prOf
    rw [cutB_last _ (code_no61 nm)]
    unfold unP okP
    dsimp only
    rw [(code_back nm).1, (code_back nm).2]
    exact ⟨rfl, rfl⟩
  | false =>
    have e : pieceL ⟨nm, vl, false⟩ = codeL nm ++ 61 :: codeL vl := rfl
    rw [e]
    unfold prOf
    rw [cutB_mid _ _ (code_no61 nm)]
    unfold unP okP
    dsimp only
    rw [(code_back nm).1, (code_back nm).2, (code_back vl).1, (code_back vl).2]
    exact ⟨rfl, rfl⟩
theorem piece_ne {p : Pr} (h : badP p = false) : pieceL p ≠ [] := by
  obtain ⟨nm, vl, br⟩ := p
  cases br with
  | true =>
    have hnm : nm ≠ [] := by
      unfold badP at h
      simp only [Bool.true_and, Bool.or_eq_false_iff, beq_eq_false_iff_ne] at h
      exact h.1
    intro e
    have e : codeL nm = [] := e
    have := (code_back nm).2
    rw [e] at this
    exact hnm this.symm
  | false =>
    intro e
    have e : codeL nm ++ 61 :: codeL vl = [] := e
    simp at e
theorem neL_all {L : List (List UInt8)} (h : ∀ x ∈ L, x ≠ []) : neL L = L := by
  unfold neL
  rw [List.filter_eq_self]
  intro x hx
  simpa using h x hx
theorem pairs_join {L : List Pr} (h : L.any badP = false) : pairsL (joinL L) = L.map fun p => prOf (pieceL p) := by
  rw [List.any_eq_false] at h
  cases L with
  | nil => rfl
  | cons p r =>
    unfold pairsL
    rw [joinL_cons, cut_tails r (pieceL p) (piece_no38 p) (fun y _ => piece_no38 y)]
    rw [neL_all (L := pieceL p :: r.map pieceL)]
    · simp
    · intro x hx
      have hx2 : x ∈ (p :: r).map pieceL := hx
      obtain ⟨y, hy, rfl⟩ := List.mem_map.1 hx2
      exact piece_ne (by simpa using h y hy)
theorem join_qry : ∀ L : List Pr, ((joinL L).all fun c => qryS.has c.toNat) = true
  | [] => rfl
  | p :: r => by
    rw [joinL_cons, List.all_append, piece_qry, Bool.true_and, List.all_flatMap, List.all_eq_true]
    intro x _
    rw [List.all_cons, piece_qry]
    decide +kernel
/-- What is joined is read back. -/
theorem join_back {L : List Pr} {s : List UInt8} (h : joinR L = .inr s) : decR s = .inr L := by
  unfold joinR at h
  split at h
  · cases h
  · rename_i ha
    split at h
    · cases h
    · rename_i hl
      injection h with h
      subst h
      have ha : L.any badP = false := by simpa using ha
      have hm := pairs_join ha
      rw [List.any_eq_false] at ha
      have hbad : ∀ p ∈ L, badP p = false := fun p hp => by simpa using ha p hp
      have hc : chkN (joinL L) = 0 := chk_ok hl (join_qry L)
      have hok : okE (joinL L) = true := by
        rw [← ok_pairs, hm, List.all_map, List.all_eq_true]
        intro p hp
        exact (prOf_piece (hbad p hp)).2
      unfold decR
      rw [if_pos hc, if_pos hok, hm, List.map_map]
      congr 1
      conv => rhs; rw [← List.map_id L]
      exact List.map_congr_left fun p hp => (prOf_piece (hbad p hp)).1
/-- The canonical form of a canonical form is itself, and has the same pairs. -/
theorem can_back {q c : List UInt8} (h : canR q = .inr c) : canR c = .inr c ∧ decR c = decR q ∧ ∃ L, decR q = .inr L := by
  unfold canR at h
  cases hd : decR q with
  | inl e => rw [hd] at h; cases h
  | inr L =>
    rw [hd] at h
    have h : joinR L = .inr c := h
    have hb := join_back h
    refine ⟨?_, hb, L, rfl⟩
    unfold canR
    rw [hb]
    exact h
/-- Two queries together. -/
theorem app_pairs {q m s : List UInt8} (h : appR q m = .inr s) : prsR q = .inr (pairsL q) ∧ prsR m = .inr (pairsL m) ∧ prsR s = .inr (pairsL m ++ pairsL q) ∧ s.length ≤ 128 := by
  unfold appR at h
  split at h
  · rename_i hq
    split at h
    · rename_i hm
      have lq := chk_len hq
      have lm := chk_len hm
      have pq : prsR q = .inr (pairsL q) := by unfold prsR; rw [if_pos hq]
      have pm : prsR m = .inr (pairsL m) := by unfold prsR; rw [if_pos hm]
      refine ⟨pq, pm, ?_⟩
      split at h
      · rename_i he
        injection h with h
        subst h
        rcases he with rfl | rfl
        · rw [List.append_nil, pm]
          refine ⟨?_, lm⟩
          show _ = Sum.inr (pairsL m ++ [])
          rw [List.append_nil]
        · rw [List.nil_append, pq]
          exact ⟨rfl, lq⟩
      · split at h
        · cases h
        · rename_i hl
          injection h with h
          subst h
          have hlen : (m ++ 38 :: q).length ≤ 128 := by
            rw [List.length_append, List.length_cons]
            omega
          have aq : (q.all fun b => qryS.has b.toNat) = true := by
            unfold chkN at hq
            rw [if_neg (by omega)] at hq
            cases h : (q.all fun b => qryS.has b.toNat) with
            | true => rfl
            | false => rw [h] at hq; cases hq
          have am : (m.all fun b => qryS.has b.toNat) = true := by
            unfold chkN at hm
            rw [if_neg (by omega)] at hm
            cases h : (m.all fun b => qryS.has b.toNat) with
            | true => rfl
            | false => rw [h] at hm; cases hm
          have hc : chkN (m ++ 38 :: q) = 0 := chk_ok (by omega) (by
            rw [List.all_append, List.all_cons, am, aq]
            decide +kernel)
          refine ⟨?_, hlen⟩
          unfold prsR
          rw [if_pos hc]
          unfold pairsL neL
          rw [cutS_app, List.filter_append, List.map_append]
    · cases h
  · cases h
end Go.Proofs.YtbbphchhdppipaaDoor
