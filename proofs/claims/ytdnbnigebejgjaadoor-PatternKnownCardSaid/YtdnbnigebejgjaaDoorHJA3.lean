/-
  The text of a pattern as a tree in itself, and that it is the text of its nodes.
-/
import Derived.Test.YtdnbnigebejgjaaDoorHJA1
import Derived.Test.YtdnbnigebejgjaaDoorHJT6
namespace Go.Proofs.YtdnbnigebejgjaaDoor
open Go.RowKit
mutual
def txP : Pc → List UInt8
  | .atom w tm => setT w ++ signL tm
  | .grp c tm => [40] ++ txQ c ++ [41] ++ signL tm
def txS : Ps → List UInt8
  | .nil => []
  | .cons p r => txP p ++ txS r
def txQ : Cs → List UInt8
  | .one s => txS s
  | .cons s r => txS s ++ (124 :: txQ r)
end
def txsS : Ps → List (List UInt8)
  | .nil => []
  | .cons p r => txP p :: txsS r
def txsQ : Cs → List (List UInt8)
  | .one s => [txS s]
  | .cons s r => txS s :: txsQ r
theorem tail_txsS : ∀ s : Ps, Lib.joinTail [] (txsS s) = txS s
  | .nil => rfl
  | .cons p r => by
    have h := tail_txsS r
    unfold Lib.joinTail at h ⊢
    simp only [txsS, txS, List.map_cons, List.flatten_cons, List.nil_append] at h ⊢
    rw [h]
theorem join_txsS : ∀ s : Ps, Lib.join (txsS s) [] = txS s
  | .nil => rfl
  | .cons p r => by
    have h := tail_txsS r
    rw [txsS, Lib.join_cons, h, txS]
theorem tail_txsQ : ∀ c : Cs, Lib.joinTail [124] (txsQ c) = 124 :: txQ c
  | .one s => by simp [Lib.joinTail, txsQ, txQ]
  | .cons s r => by
    have h := tail_txsQ r
    unfold Lib.joinTail at h ⊢
    simp only [txsQ, txQ, List.map_cons, List.flatten_cons, List.cons_append, List.nil_append] at h ⊢
    rw [h]
theorem join_txsQ : ∀ c : Cs, Lib.join (txsQ c) [124] = txQ c
  | .one s => by rw [txsQ, Lib.join_cons, txQ]; simp [Lib.joinTail]
  | .cons s r => by
    have h := tail_txsQ r
    rw [txsQ, Lib.join_cons, h, txQ]
mutual
theorem nt_P (L : List ND) : ∀ (p : Pc) (b g : Nat) (nx : Int) (f : Nat), At L b (flP b g nx p) → szP p ≤ f → ntT L f b = txP p
  | .atom w tm, b, g, nx, f, hA, hf => by
    unfold flP at hA
    obtain ⟨h1, h2, _⟩ := hA.cons
    unfold szP at hf
    obtain ⟨f, rfl⟩ : ∃ f', f = f' + 1 := ⟨f - 1, by omega⟩
    unfold ntT
    dsimp only
    rw [h1, if_pos rfl, txP, Int.toNat_natCast]
  | .grp c tm, b, g, nx, f, hA, hf => by
    unfold flP at hA
    obtain ⟨h1, h2, hA⟩ := hA.cons
    obtain ⟨h3, h4, hA⟩ := hA.cons
    unfold szP at hf
    have hq := flQ_len c (b + 2) (g + 1)
    have hp := szQ_pos c
    have hle := hA.le (by omega)
    obtain ⟨f, rfl⟩ : ∃ f', f = f' + 2 := ⟨f - 2, by omega⟩
    have k := nt_Q L c (b + 2) (g + 1) f (L.length + 1) hA (by omega) (by omega)
    unfold ntT
    dsimp only
    rw [h1]
    dsimp only
    rw [if_neg (by decide), if_pos rfl, Int.toNat_natCast, Int.toNat_natCast]
    unfold ntT
    dsimp only
    unfold kidL
    rw [h3]
    dsimp only
    rw [if_neg (by decide), if_neg (by decide), if_pos rfl, k, join_txsQ, txP]
theorem nt_S (L : List ND) : ∀ (s : Ps) (b g : Nat) (f F : Nat), At L b (flS b g s) → szS s ≤ f → szS s ≤ F → (chn L F (hdS b s)).map (fun k => ntT L f k.toNat) = txsS s
  | .nil, b, g, f, F, _, _, _ => by unfold hdS; rw [chn_none]; rfl
  | .cons p r, b, g, f, F, hA, hf, hF => by
    unfold flS at hA
    obtain ⟨hA1, hA2⟩ := hA.app
    rw [flP_len] at hA2
    unfold szS at hf hF
    have hp := szP_pos p
    have hl := flP_len p b g (hdS (b + szP p) r)
    have hle := hA1.le (by omega)
    obtain ⟨F, rfl⟩ : ∃ f', F = f' + 1 := ⟨F - 1, by omega⟩
    have k1 := nt_P L p b g _ f hA1 (by omega)
    have k2 := nt_S L r (b + szP p) (g + gcP p) f F hA2 (by omega) (by omega)
    have hnx : (L.getD b (bare 0 .empty 0)).next = hdS (b + szP p) r := by
      cases p with
      | atom w tm =>
        unfold flP at hA1
        rw [hA1.cons.1]
      | grp c tm =>
        unfold flP at hA1
        rw [hA1.cons.1]
    show (chn L (F + 1) (b : Int)).map _ = _
    rw [chn_next (by omega) (by omega), Int.toNat_natCast, hnx, List.map_cons, k2, Int.toNat_natCast, k1, txsS]
theorem nt_Q (L : List ND) : ∀ (c : Cs) (b g : Nat) (f F : Nat), At L b (flQ b g c) → szQ c ≤ f → szQ c ≤ F → (chn L F (b : Int)).map (fun k => ntT L f k.toNat) = txsQ c
  | .one s, b, g, f, F, hA, hf, hF => by
    unfold flQ at hA
    have hle := hA.le (by simp)
    rw [List.length_cons, flS_len] at hle
    obtain ⟨h1, h2, hA⟩ := hA.cons
    unfold szQ at hf hF
    obtain ⟨F, rfl⟩ : ∃ f', F = f' + 1 := ⟨F - 1, by omega⟩
    obtain ⟨f, rfl⟩ : ∃ f', f = f' + 1 := ⟨f - 1, by omega⟩
    have k := nt_S L s (b + 1) g f (L.length + 1) hA (by omega) (by omega)
    rw [chn_next (by omega) (by omega), Int.toNat_natCast, h1]
    show (((b : Int) :: chn L F (-1)).map fun k => ntT L (f + 1) k.toNat) = _
    rw [chn_none, List.map_cons, List.map_nil, Int.toNat_natCast]
    unfold ntT
    dsimp only
    unfold kidL
    rw [h1]
    dsimp only
    rw [if_neg (by decide), if_neg (by decide), if_neg (by decide), k, join_txsS, txsQ]
  | .cons s r, b, g, f, F, hA, hf, hF => by
    unfold flQ at hA
    have hle := hA.le (by simp)
    rw [List.length_cons, List.length_append, flS_len, flQ_len] at hle
    obtain ⟨h1, h2, hA⟩ := hA.cons
    obtain ⟨hA1, hA2⟩ := hA.app
    rw [flS_len] at hA2
    unfold szQ at hf hF
    obtain ⟨F, rfl⟩ : ∃ f', F = f' + 1 := ⟨F - 1, by omega⟩
    have k2 := nt_Q L r (b + 1 + szS s) (g + gcS s) f F hA2 (by omega) (by omega)
    obtain ⟨f, rfl⟩ : ∃ f', f = f' + 1 := ⟨f - 1, by omega⟩
    have k := nt_S L s (b + 1) g f (L.length + 1) hA1 (by omega) (by omega)
    rw [chn_next (by omega) (by omega), Int.toNat_natCast, h1]
    dsimp only
    rw [List.map_cons, k2, Int.toNat_natCast]
    congr 1
    unfold ntT
    dsimp only
    unfold kidL
    rw [h1]
    dsimp only
    rw [if_neg (by decide), if_neg (by decide), if_neg (by decide), k, join_txsS]
end
/-- The text of all nodes of a pattern. -/
theorem full_flT (c : Cs) (bb en : Bool) : fullT (flT c) bb en = (if bb = true then [94] else []) ++ txQ c ++ (if en = true then [36] else []) := by
  have hA : At (flT c) 1 (flQ 1 0 c) := (At.all (flT c)).cons.2.2
  have k := nt_Q (flT c) c 1 0 (szQ c) ((flT c).length + 1) hA (Nat.le_refl _) (by rw [flT_len]; omega)
  have e : ntT (flT c) (flT c).length 0 = txQ c := by
    rw [show (flT c).length = szQ c + 1 from flT_len c]
    unfold ntT
    dsimp only
    unfold kidL
    have e0 : (flT c).getD 0 (bare 0 .empty 0) = ⟨3, 0, .empty, 0, 1, -1⟩ := rfl
    rw [e0, if_neg (by decide), if_neg (by decide), if_pos rfl]
    have k' : (chn (flT c) ((flT c).length + 1) 1).map (fun k => ntT (flT c) (szQ c) k.toNat) = txsQ c := k
    rw [k', join_txsQ]
  unfold fullT
  rw [e]
end Go.Proofs.YtdnbnigebejgjaaDoor
