/-
  Patterns as trees in themselves: pieces, sequences and choices; their nodes in a list. These nodes are a tree in the program's sense, and their groups are numbered.
  The text of a pattern as a tree in itself, and that it is the text of its nodes.
-/
import Derived.Test.YtdnbnigebejgjaaGreatDoorHT4
import Derived.Test.YtdnbnigebejgjaaGreatDoorHJT6
namespace Go.Proofs.YtdnbnigebejgjaaGreatDoor
open Go.RowKit
mutual
inductive Pc where
  | atom (w : WSet) (tm : Nat)
  | grp (c : Cs) (tm : Nat)
inductive Ps where
  | nil
  | cons (p : Pc) (r : Ps)
inductive Cs where
  | one (s : Ps)
  | cons (s : Ps) (r : Cs)
end
mutual
/-- How many nodes: of a piece, of the pieces of a sequence, of the sequences of a choice. -/
def szP : Pc → Nat
  | .atom _ _ => 1
  | .grp c _ => szQ c + 2
def szS : Ps → Nat
  | .nil => 0
  | .cons p r => szP p + szS r
def szQ : Cs → Nat
  | .one s => szS s + 1
  | .cons s r => szS s + 1 + szQ r
end
mutual
/-- How many groups. -/
def gcP : Pc → Nat
  | .atom _ _ => 0
  | .grp c _ => gcQ c + 1
def gcS : Ps → Nat
  | .nil => 0
  | .cons p r => gcP p + gcS r
def gcQ : Cs → Nat
  | .one s => gcS s
  | .cons s r => gcS s + gcQ r
end
mutual
def wfP : Pc → Prop
  | .atom w tm => w ≠ .empty ∧ tm ≤ 3
  | .grp c tm => wfQ c ∧ (tm = 0 ∨ tm = 3)
def wfS : Ps → Prop
  | .nil => True
  | .cons p r => wfP p ∧ wfS r
def wfQ : Cs → Prop
  | .one s => wfS s
  | .cons s r => wfS s ∧ wfQ r
end
/-- Where the first piece of the rest of a sequence stands, if there is one. -/
def hdS (b : Nat) : Ps → Int
  | .nil => -1
  | .cons _ _ => (b : Int)
mutual
/-- The nodes: from number b on, behind g groups. -/
def flP : Nat → Nat → Int → Pc → List ND
  | _, _, nx, .atom w tm => [⟨1, (tm : Int), w, 0, -1, nx⟩]
  | b, g, nx, .grp c tm => ⟨4, (tm : Int), .empty, ((g + 1 : Nat) : Int), ((b + 1 : Nat) : Int), nx⟩ :: ⟨3, 0, .empty, 0, ((b + 2 : Nat) : Int), -1⟩ :: flQ (b + 2) (g + 1) c
def flS : Nat → Nat → Ps → List ND
  | _, _, .nil => []
  | b, g, .cons p r => flP b g (hdS (b + szP p) r) p ++ flS (b + szP p) (g + gcP p) r
def flQ : Nat → Nat → Cs → List ND
  | b, g, .one s => ⟨2, 0, .empty, 0, hdS (b + 1) s, -1⟩ :: flS (b + 1) g s
  | b, g, .cons s r => ⟨2, 0, .empty, 0, hdS (b + 1) s, ((b + 1 + szS s : Nat) : Int)⟩ :: (flS (b + 1) g s ++ flQ (b + 1 + szS s) (g + gcS s) r)
end
/-- All nodes of a pattern. -/
def flT (c : Cs) : List ND := ⟨3, 0, .empty, 0, 1, -1⟩ :: flQ 1 0 c
theorem szP_pos (p : Pc) : 1 ≤ szP p := by cases p <;> simp [szP]
theorem szQ_pos (c : Cs) : 1 ≤ szQ c := by cases c <;> simp [szQ] <;> omega
mutual
theorem flP_len : ∀ (p : Pc) (b g : Nat) (nx : Int), (flP b g nx p).length = szP p
  | .atom _ _, _, _, _ => rfl
  | .grp c _, b, g, _ => by simp [flP, szP, flQ_len c]
theorem flS_len : ∀ (s : Ps) (b g : Nat), (flS b g s).length = szS s
  | .nil, _, _ => rfl
  | .cons p r, b, g => by simp [flS, szS, flP_len p, flS_len r]
theorem flQ_len : ∀ (c : Cs) (b g : Nat), (flQ b g c).length = szQ c
  | .one s, b, g => by simp [flQ, szQ, flS_len s]
  | .cons s r, b, g => by simp [flQ, szQ, flS_len s, flQ_len r]; omega
end
theorem flT_len (c : Cs) : (flT c).length = szQ c + 1 := by simp [flT, flQ_len]
/-- From number b on the list holds these nodes. -/
def At (L : List ND) (b : Nat) (X : List ND) : Prop := ∃ B, L.drop b = X ++ B
theorem At.cons {L : List ND} {b : Nat} {x : ND} {X : List ND} (h : At L b (x :: X)) : L.getD b (bare 0 .empty 0) = x ∧ b < L.length ∧ At L (b + 1) X := by
  obtain ⟨B, h⟩ := h
  have hb : b < L.length := by
    apply Nat.lt_of_not_le
    intro hc
    rw [List.drop_eq_nil_of_le hc] at h
    cases h
  rw [List.drop_eq_getElem_cons hb] at h
  injection h with h1 h2
  refine ⟨?_, hb, B, h2⟩
  rw [List.getD_eq_getElem?_getD, List.getElem?_eq_getElem hb]
  exact h1
theorem At.app {L : List ND} {b : Nat} {X Y : List ND} (h : At L b (X ++ Y)) : At L b X ∧ At L (b + X.length) Y := by
  obtain ⟨B, h⟩ := h
  refine ⟨⟨Y ++ B, by rw [h, List.append_assoc]⟩, B, ?_⟩
  rw [← List.drop_drop, h, List.append_assoc, List.drop_left]
theorem At.all (L : List ND) : At L 0 L := ⟨[], by simp⟩
theorem At.le {L : List ND} {b : Nat} {X : List ND} (h : At L b X) (hX : 0 < X.length) : b + X.length ≤ L.length := by
  obtain ⟨B, h⟩ := h
  have := congrArg List.length h
  simp at this
  omega
theorem kl_end (L : List ND) (f : Nat) (kd : Int) (nx : Nat) : kl L f kd nx (-1) = some nx := by cases f <;> rfl
theorem kl_step {L : List ND} {f : Nat} {kd : Int} {b k2 e : Nat} {n : ND} (hb : b < L.length) (hn : L.getD b (bare 0 .empty 0) = n) (h1 : mayB kd n.kind = true) (h2 : sndB n = true) (h3 : kl L f n.kind (b + 1) n.first = some k2) (h4 : kl L f kd k2 n.next = some e) :
    kl L (f + 1) kd b (b : Int) = some e := by
  rw [List.getD_eq_getElem?_getD, List.getElem?_eq_getElem hb] at hn
  have hn : L[b] = n := hn
  unfold kl
  rw [if_neg (by omega), dif_pos hb, hn, if_pos ⟨rfl, h1, h2⟩, h3]
  exact h4
theorem snd_atom {w : WSet} {tm : Nat} {nx : Int} (h : wfP (.atom w tm)) : sndB ⟨1, (tm : Int), w, 0, -1, nx⟩ = true := by
  obtain ⟨h1, h2⟩ := h
  unfold sndB
  rw [if_pos rfl]
  have : w.isNone = false := decide_eq_false h1
  simp [this]
  omega
mutual
theorem kl_P (L : List ND) : ∀ (p : Pc) (b g : Nat) (nx : Int) (f : Nat), At L b (flP b g nx p) → wfP p → szP p ≤ f + 1 →
    ∃ n, L.getD b (bare 0 .empty 0) = n ∧ b < L.length ∧ mayB 2 n.kind = true ∧ sndB n = true ∧ n.next = nx ∧ kl L f n.kind (b + 1) n.first = some (b + szP p)
  | .atom w tm, b, g, nx, f, hA, hw, _ => by
    unfold flP at hA
    obtain ⟨h1, h2, _⟩ := hA.cons
    exact ⟨_, h1, h2, rfl, snd_atom hw, rfl, kl_end L f 1 (b + 1)⟩
  | .grp c tm, b, g, nx, f, hA, hw, hf => by
    unfold flP at hA
    obtain ⟨h1, h2, hA⟩ := hA.cons
    obtain ⟨h3, h4, hA⟩ := hA.cons
    unfold wfP at hw
    unfold szP at hf
    obtain ⟨f, rfl⟩ : ∃ f', f = f' + 1 := ⟨f - 1, by omega⟩
    have k := kl_Q L c (b + 2) (g + 1) f hA hw.1 (by omega)
    refine ⟨_, h1, h2, rfl, ?_, rfl, ?_⟩
    · unfold sndB
      rcases hw.2 with rfl | rfl <;> simp [WSet.isNone] <;> omega
    · have e : some (b + szP (.grp c tm)) = some (b + 2 + szQ c) := by unfold szP; congr 1; omega
      rw [e]
      refine kl_step h4 h3 rfl ?_ k (kl_end L f 4 (b + 2 + szQ c))
      unfold sndB
      simp [WSet.isNone]
      omega
theorem kl_S (L : List ND) : ∀ (s : Ps) (b g : Nat) (f : Nat), At L b (flS b g s) → wfS s → szS s ≤ f → kl L f 2 b (hdS b s) = some (b + szS s)
  | .nil, b, g, f, _, _, _ => kl_end L f 2 b
  | .cons p r, b, g, f, hA, hw, hf => by
    unfold flS at hA
    obtain ⟨hA1, hA2⟩ := hA.app
    rw [flP_len] at hA2
    unfold szS at hf
    unfold wfS at hw
    have := szP_pos p
    obtain ⟨f, rfl⟩ : ∃ f', f = f' + 1 := ⟨f - 1, by omega⟩
    obtain ⟨n, h1, h2, h3, h4, h5, h6⟩ := kl_P L p b g _ f hA1 hw.1 (by omega)
    have k := kl_S L r (b + szP p) (g + gcP p) f hA2 hw.2 (by omega)
    unfold szS
    rw [← Nat.add_assoc]
    exact kl_step h2 h1 h3 h4 h6 (by rw [h5]; exact k)
theorem kl_Q (L : List ND) : ∀ (c : Cs) (b g : Nat) (f : Nat), At L b (flQ b g c) → wfQ c → szQ c ≤ f → kl L f 3 b (b : Int) = some (b + szQ c)
  | .one s, b, g, f, hA, hw, hf => by
    unfold flQ at hA
    obtain ⟨h1, h2, hA⟩ := hA.cons
    unfold szQ at hf
    unfold wfQ at hw
    obtain ⟨f, rfl⟩ : ∃ f', f = f' + 1 := ⟨f - 1, by omega⟩
    have k := kl_S L s (b + 1) g f hA hw (by omega)
    refine kl_step h2 h1 rfl rfl k ?_
    show kl L f 3 _ (-1) = _
    rw [kl_end]
    unfold szQ
    rw [show b + 1 + szS s = b + (szS s + 1) by omega]
  | .cons s r, b, g, f, hA, hw, hf => by
    unfold flQ at hA
    obtain ⟨h1, h2, hA⟩ := hA.cons
    obtain ⟨hA1, hA2⟩ := hA.app
    rw [flS_len] at hA2
    unfold szQ at hf
    unfold wfQ at hw
    obtain ⟨f, rfl⟩ : ∃ f', f = f' + 1 := ⟨f - 1, by omega⟩
    have k := kl_S L s (b + 1) g f hA1 hw.1 (by omega)
    have k2 := kl_Q L r (b + 1 + szS s) (g + gcS s) f hA2 hw.2 (by omega)
    refine kl_step h2 h1 rfl rfl k ?_
    unfold szQ
    rw [show b + (szS s + 1 + szQ r) = b + 1 + szS s + szQ r by omega]
    exact k2
end
mutual
theorem num_P : ∀ (p : Pc) (b g : Nat) (nx : Int) (X : List ND), numOK (flP b g nx p ++ X) (g : Int) = numOK X ((g + gcP p : Nat) : Int) ∧ gct (flP b g nx p ++ X) = gcP p + gct X
  | .atom w tm, b, g, nx, X => by simp [flP, numOK, gct, gcP]
  | .grp c tm, b, g, nx, X => by
    have k := num_Q c (b + 2) (g + 1) X
    simp only [flP, List.cons_append, numOK, gct, gcP]
    constructor
    · rw [if_pos trivial, if_neg (by decide), decide_eq_true (by omega), Bool.true_and]
      rw [show (g : Int) + 1 = ((g + 1 : Nat) : Int) by omega, k.1, show g + 1 + gcQ c = g + (gcQ c + 1) by omega]
    · rw [if_pos trivial, if_neg (by decide), k.2]
      omega
theorem num_S : ∀ (s : Ps) (b g : Nat) (X : List ND), numOK (flS b g s ++ X) (g : Int) = numOK X ((g + gcS s : Nat) : Int) ∧ gct (flS b g s ++ X) = gcS s + gct X
  | .nil, b, g, X => by simp [flS, gcS]
  | .cons p r, b, g, X => by
    have k1 := num_P p b g (hdS (b + szP p) r) (flS (b + szP p) (g + gcP p) r ++ X)
    have k2 := num_S r (b + szP p) (g + gcP p) X
    simp only [flS, List.append_assoc, gcS]
    rw [k1.1, k1.2, k2.1, k2.2]
    exact ⟨by rw [show g + gcP p + gcS r = g + (gcP p + gcS r) by omega], by omega⟩
theorem num_Q : ∀ (c : Cs) (b g : Nat) (X : List ND), numOK (flQ b g c ++ X) (g : Int) = numOK X ((g + gcQ c : Nat) : Int) ∧ gct (flQ b g c ++ X) = gcQ c + gct X
  | .one s, b, g, X => by
    have k := num_S s (b + 1) g X
    simp only [flQ, List.cons_append, numOK, gct, gcQ]
    rw [if_neg (by decide), if_neg (by decide), k.1, k.2]
    exact ⟨rfl, by omega⟩
  | .cons s r, b, g, X => by
    have k1 := num_S s (b + 1) g (flQ (b + 1 + szS s) (g + gcS s) r ++ X)
    have k2 := num_Q r (b + 1 + szS s) (g + gcS s) X
    simp only [flQ, List.cons_append, List.append_assoc, numOK, gct, gcQ]
    rw [if_neg (by decide), if_neg (by decide), k1.1, k1.2, k2.1, k2.2]
    exact ⟨by rw [show g + gcS s + gcQ r = g + (gcS s + gcQ r) by omega], by omega⟩
end
/-- The nodes of a pattern have no error. -/
theorem chk_flT (c : Cs) (hw : wfQ c) (hg : gcQ c ≤ 9) (hl : szQ c + 1 ≤ 200) : chkR (flT c) (gcQ c : Int) = 0 := by
  have hA : At (flT c) 1 (flQ 1 0 c) := (At.all (flT c)).cons.2.2
  have k := kl_Q (flT c) c 1 0 (szQ c + 1) hA hw (by omega)
  have hB : beh (flT c) (flT c).length 0 = some (flT c).length := by
    rw [flT_len]
    unfold beh
    have h0 : 0 < (flT c).length := by rw [flT_len]; omega
    rw [dif_pos h0]
    have e0 : (flT c)[0] = ⟨3, 0, .empty, 0, 1, -1⟩ := rfl
    rw [e0, if_pos (by unfold sndB; simp [WSet.isNone])]
    rw [show szQ c + 1 = 1 + szQ c by omega] at k ⊢
    exact k
  have hT : treeB (flT c) = true := by
    unfold treeB
    rw [hB, flT_len]
    simp [flT]
  have hN : nmB (flT c) (gcQ c : Int) = true := by
    have k := num_Q c 1 0 []
    rw [List.append_nil] at k
    have e : numOK (flT c) 0 = true := by unfold flT; rw [numOK, if_neg (by decide)]; exact k.1.trans rfl
    have e2 : gct (flT c) = gcQ c := by
      unfold flT
      rw [gct, if_neg (by decide)]
      have := k.2
      simp only [gct] at this
      omega
    unfold nmB
    rw [e, e2]
    simp
    omega
  unfold chkR
  rw [if_neg (by rw [flT_len]; omega), if_pos hT, if_pos hN]
end Go.Proofs.YtdnbnigebejgjaaGreatDoor
namespace Go.Proofs.YtdnbnigebejgjaaGreatDoor
open Go.RowKit
mutual
def txP : Pc → List UInt8
  | .atom w tm => setT w ++ signL tm
  | .grp c tm => [40] ++ txQ c ++ [41] ++ signL tm
def txS : Ps → List UInt8
  | .nil => []
  | .cons p r => txP p ++ txS r
def txQ : Cs → List UInt8
  | .one s => txS s
  | .cons s r => txS s ++ (124 :: txQ r)
end
def txsS : Ps → List (List UInt8)
  | .nil => []
  | .cons p r => txP p :: txsS r
def txsQ : Cs → List (List UInt8)
  | .one s => [txS s]
  | .cons s r => txS s :: txsQ r
theorem tail_txsS : ∀ s : Ps, Lib.joinTail [] (txsS s) = txS s
  | .nil => rfl
  | .cons p r => by
    have h := tail_txsS r
    unfold Lib.joinTail at h ⊢
    simp only [txsS, txS, List.map_cons, List.flatten_cons, List.nil_append] at h ⊢
    rw [h]
theorem join_txsS : ∀ s : Ps, Lib.join (txsS s) [] = txS s
  | .nil => rfl
  | .cons p r => by
    have h := tail_txsS r
    rw [txsS, Lib.join_cons, h, txS]
theorem tail_txsQ : ∀ c : Cs, Lib.joinTail [124] (txsQ c) = 124 :: txQ c
  | .one s => by simp [Lib.joinTail, txsQ, txQ]
  | .cons s r => by
    have h := tail_txsQ r
    unfold Lib.joinTail at h ⊢
    simp only [txsQ, txQ, List.map_cons, List.flatten_cons, List.cons_append, List.nil_append] at h ⊢
    rw [h]
theorem join_txsQ : ∀ c : Cs, Lib.join (txsQ c) [124] = txQ c
  | .one s => by rw [txsQ, Lib.join_cons, txQ]; simp [Lib.joinTail]
  | .cons s r => by
    have h := tail_txsQ r
    rw [txsQ, Lib.join_cons, h, txQ]
mutual
theorem nt_P (L : List ND) : ∀ (p : Pc) (b g : Nat) (nx : Int) (f : Nat), At L b (flP b g nx p) → szP p ≤ f → ntT L f b = txP p
  | .atom w tm, b, g, nx, f, hA, hf => by
    unfold flP at hA
    obtain ⟨h1, h2, _⟩ := hA.cons
    unfold szP at hf
    obtain ⟨f, rfl⟩ : ∃ f', f = f' + 1 := ⟨f - 1, by omega⟩
    unfold ntT
    dsimp only
    rw [h1, if_pos rfl, txP, Int.toNat_natCast]
  | .grp c tm, b, g, nx, f, hA, hf => by
    unfold flP at hA
    obtain ⟨h1, h2, hA⟩ := hA.cons
    obtain ⟨h3, h4, hA⟩ := hA.cons
    unfold szP at hf
    have hq := flQ_len c (b + 2) (g + 1)
    have hp := szQ_pos c
    have hle := hA.le (by omega)
    obtain ⟨f, rfl⟩ : ∃ f', f = f' + 2 := ⟨f - 2, by omega⟩
    have k := nt_Q L c (b + 2) (g + 1) f (L.length + 1) hA (by omega) (by omega)
    unfold ntT
    dsimp only
    rw [h1]
    dsimp only
    rw [if_neg (by decide), if_pos rfl, Int.toNat_natCast, Int.toNat_natCast]
    unfold ntT
    dsimp only
    unfold kidL
    rw [h3]
    dsimp only
    rw [if_neg (by decide), if_neg (by decide), if_pos rfl, k, join_txsQ, txP]
theorem nt_S (L : List ND) : ∀ (s : Ps) (b g : Nat) (f F : Nat), At L b (flS b g s) → szS s ≤ f → szS s ≤ F → (chn L F (hdS b s)).map (fun k => ntT L f k.toNat) = txsS s
  | .nil, b, g, f, F, _, _, _ => by unfold hdS; rw [chn_none]; rfl
  | .cons p r, b, g, f, F, hA, hf, hF => by
    unfold flS at hA
    obtain ⟨hA1, hA2⟩ := hA.app
    rw [flP_len] at hA2
    unfold szS at hf hF
    have hp := szP_pos p
    have hl := flP_len p b g (hdS (b + szP p) r)
    have hle := hA1.le (by omega)
    obtain ⟨F, rfl⟩ : ∃ f', F = f' + 1 := ⟨F - 1, by omega⟩
    have k1 := nt_P L p b g _ f hA1 (by omega)
    have k2 := nt_S L r (b + szP p) (g + gcP p) f F hA2 (by omega) (by omega)
    have hnx : (L.getD b (bare 0 .empty 0)).next = hdS (b + szP p) r := by
      cases p with
      | atom w tm =>
        unfold flP at hA1
        rw [hA1.cons.1]
      | grp c tm =>
        unfold flP at hA1
        rw [hA1.cons.1]
    show (chn L (F + 1) (b : Int)).map _ = _
    rw [chn_next (by omega) (by omega), Int.toNat_natCast, hnx, List.map_cons, k2, Int.toNat_natCast, k1, txsS]
theorem nt_Q (L : List ND) : ∀ (c : Cs) (b g : Nat) (f F : Nat), At L b (flQ b g c) → szQ c ≤ f → szQ c ≤ F → (chn L F (b : Int)).map (fun k => ntT L f k.toNat) = txsQ c
  | .one s, b, g, f, F, hA, hf, hF => by
    unfold flQ at hA
    have hle := hA.le (by simp)
    rw [List.length_cons, flS_len] at hle
    obtain ⟨h1, h2, hA⟩ := hA.cons
    unfold szQ at hf hF
    obtain ⟨F, rfl⟩ : ∃ f', F = f' + 1 := ⟨F - 1, by omega⟩
    obtain ⟨f, rfl⟩ : ∃ f', f = f' + 1 := ⟨f - 1, by omega⟩
    have k := nt_S L s (b + 1) g f (L.length + 1) hA (by omega) (by omega)
    rw [chn_next (by omega) (by omega), Int.toNat_natCast, h1]
    show (((b : Int) :: chn L F (-1)).map fun k => ntT L (f + 1) k.toNat) = _
    rw [chn_none, List.map_cons, List.map_nil, Int.toNat_natCast]
    unfold ntT
    dsimp only
    unfold kidL
    rw [h1]
    dsimp only
    rw [if_neg (by decide), if_neg (by decide), if_neg (by decide), k, join_txsS, txsQ]
  | .cons s r, b, g, f, F, hA, hf, hF => by
    unfold flQ at hA
    have hle := hA.le (by simp)
    rw [List.length_cons, List.length_append, flS_len, flQ_len] at hle
    obtain ⟨h1, h2, hA⟩ := hA.cons
    obtain ⟨hA1, hA2⟩ := hA.app
    rw [flS_len] at hA2
    unfold szQ at hf hF
    obtain ⟨F, rfl⟩ : ∃ f', F = f' + 1 := ⟨F - 1, by omega⟩
    have k2 := nt_Q L r (b + 1 + szS s) (g + gcS s) f F hA2 (by omega) (by omega)
    obtain ⟨f, rfl⟩ : ∃ f', f = f' + 1 := ⟨f - 1, by omega⟩
    have k := nt_S L s (b + 1) g f (L.length + 1) hA1 (by omega) (by omega)
    rw [chn_next (by omega) (by omega), Int.toNat_natCast, h1]
    dsimp only
    rw [List.map_cons, k2, Int.toNat_natCast]
    congr 1
    unfold ntT
    dsimp only
    unfold kidL
    rw [h1]
    dsimp only
    rw [if_neg (by decide), if_neg (by decide), if_neg (by decide), k, join_txsS]
end
/-- The text of all nodes of a pattern. -/
theorem full_flT (c : Cs) (bb en : Bool) : fullT (flT c) bb en = (if bb = true then [94] else []) ++ txQ c ++ (if en = true then [36] else []) := by
  have hA : At (flT c) 1 (flQ 1 0 c) := (At.all (flT c)).cons.2.2
  have k := nt_Q (flT c) c 1 0 (szQ c) ((flT c).length + 1) hA (Nat.le_refl _) (by rw [flT_len]; omega)
  have e : ntT (flT c) (flT c).length 0 = txQ c := by
    rw [show (flT c).length = szQ c + 1 from flT_len c]
    unfold ntT
    dsimp only
    unfold kidL
    have e0 : (flT c).getD 0 (bare 0 .empty 0) = ⟨3, 0, .empty, 0, 1, -1⟩ := rfl
    rw [e0, if_neg (by decide), if_neg (by decide), if_pos rfl]
    have k' : (chn (flT c) ((flT c).length + 1) 1).map (fun k => ntT (flT c) (szQ c) k.toNat) = txsQ c := k
    rw [k', join_txsQ]
  unfold fullT
  rw [e]
end Go.Proofs.YtdnbnigebejgjaaGreatDoor
