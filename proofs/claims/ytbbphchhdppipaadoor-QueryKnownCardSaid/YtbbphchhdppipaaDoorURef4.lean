/-
  The reference's Pairs and Decoded, for texts shorter than 100000 bytes.
-/
import Derived.Test.YtbbphchhdppipaaDoorURef3
namespace Go.Proofs.YtbbphchhdppipaaDoor
open Go.RowKit
/-- A list of pairs in new memory, or an error. -/
def PrsPost (base : Nat) (R : Nat ⊕ List Pr) (e : Ending) (w : World) : Prop :=
  match R with
  | .inl x => e = .returned (.tuple #[.slice none 0 0, .int .i64 (x : Int)])
  | .inr L => ∃ v, e = .returned (.tuple #[v, .int .i64 0]) ∧ w.ownsRow base 40 3 v L.length (prsC L)
theorem cutS_cur : ∀ (l cur : List UInt8), cutS cur l = (cur ++ (cutB 38 l).1) :: (if (cutB 38 l).2.2 then cutS [] (cutB 38 l).2.1 else [])
  | [], cur => by simp [cutS, cutB]
  | c :: r, cur => by
    by_cases h : c.toNat = 38
    · have h2 : c = 38 := UInt8.toNat_inj.1 h
      subst h2
      simp [cutS, cutB]
    · have h2 : c ≠ 38 := fun e => h (by rw [e]; rfl)
      rw [cutS, if_neg h, cutB, if_neg h2, cutS_cur r (cur ++ [c])]
      simp
/-- What the loop still makes. -/
def contU (m : Bool) (T : List UInt8) (L : List Pr) : List Pr := if m then L ++ pairsL T else L
theorem contU_skip {T x T2 : List UInt8} {d : Bool} {L : List Pr} (h : cutB 38 T = (x, T2, d)) (hx : x = []) : contU d T2 L = contU true T L := by
  unfold contU pairsL
  rw [cutS_cur T [], h, hx]
  cases d <;> simp [neL]
theorem contU_hit {T x T2 : List UInt8} {d : Bool} {L : List Pr} (h : cutB 38 T = (x, T2, d)) (hx : x ≠ []) : contU d T2 (L ++ [prOf x]) = contU true T L := by
  unfold contU pairsL
  rw [cutS_cur T [], h]
  cases x with
  | nil => exact absurd rfl hx
  | cons c r => cases d <;> simp [neL]
theorem cutB_short {c : UInt8} {T x T2 : List UInt8} {d : Bool} (h : cutB c T = (x, T2, d)) : x.length ≤ T.length ∧ T2.length ≤ T.length ∧ (d = true → T2.length < T.length) := by
  have h1 := cutB_len c T
  rw [h] at h1
  refine ⟨h1.1, h1.2, fun hd => ?_⟩
  rcases cutB_app c T with ⟨_, h3⟩ | ⟨h3, _⟩
  · rw [h] at h3
    have := congrArg List.length h3
    simp only [List.length_append, List.length_cons] at this
    omega
  · rw [h] at h3
    dsimp only at h3
    rw [hd] at h3
    cases h3
theorem new_pair (w : World) (p : Pr) (t : TypeId) (j : Nat) : (w.alloc (.cells #[.string ⟨p.nm.toArray⟩, .string ⟨p.vl.toArray⟩, .bool p.br] t)).cell? ((⟨w.heap.size, 0, none⟩ : Addr).add j) = (prsC [p])[j]? := by
  rw [Lib.add_plain, Nat.zero_add, World.cell?_alloc_new]
  match j with
  | 0 => rfl
  | 1 => rfl
  | 2 => rfl
  | j + 3 => rfl
def measU : Value → Value → Nat
  | .string s, .bool true => s.size + 1
  | _, _ => 0
set_option maxRecDepth 100000 in
set_option maxHeartbeats 8000000 in
theorem refPairs_any (q : List UInt8) (hl : q.length < 100000) (w : World) :
    Calls Tryd.prog 20 #[.string ⟨q.toArray⟩] w fun e w' => PrsPost w.heap.size (prsR q) e w' ∧ Below w.heap.size w w' := by
  have HCK : Hid (∀ W, Calls Tryd.prog 16 #[.string ⟨q.toArray⟩] W fun e w' => e = .returned (.int .i64 (chkN q : Nat)) ∧ W = w') := Lib.hid fun W => refCheck_any q hl W
  by_cases hc : chkN q = 0
  · have HR : Hid (prsR q = .inr (pairsL q)) := Lib.hid (by unfold prsR; rw [if_pos hc])
    have hq128 := chk_len hc
    have HC := Lib.hid hc
    clear hc
    obtain ⟨i0, hi, hz0, hz1, hz2⟩ := info_parts infoPr
    rw [HR.out]
    obtain ⟨R, hR⟩ : ∃ R, pairsL q = R := ⟨_, rfl⟩
    have H0 : Hid (contU true q [] = R) := Lib.hid (by unfold contU; rw [if_pos rfl]; exact hR)
    rw [hR]
    clear hR
    go_enter Tryd.func20, Tryd.ntmps20
    go_wp2_with fail
    refine (HCK.out _).mono ?_
    rintro e w' ⟨rfl, rfl⟩
    rw [HC.out]
    go_wp2_with fail
    go_loopw [0, 5, 6] (fun s o m wr => ∃ (T : List UInt8) (L : List Pr) (d : Bool), s = .string ⟨T.toArray⟩ ∧ m = .bool d ∧ T.length ≤ 128 ∧ L.length + (if d then T.length + 1 else 0) ≤ 129 ∧ wr.ownsRow w.heap.size 40 3 o L.length (prsC L) ∧ Hid (contU d T L = R) ∧ Below w.heap.size w wr) (fun s _ m _ => measU s m)
    case atStart => exact ⟨q, [], true, rfl, rfl, hq128, by simp; omega, World.ownsRow_nil _ _ _ _, H0, Below.refl _ _⟩
    case round =>
    obtain ⟨T, L, d, rfl, rfl, hT, hL, hrow, hst, hB⟩ := hrel
    obtain ⟨ov, oc, rfl⟩ := own_slice hrow
    cases d with
    | false =>
      have hres : Hid (L = R) := hst
      clear hst
      go_wp2_with fail
      go_ret2
      rw [← hres.out]
      exact ⟨⟨_, rfl, hrow⟩, hB⟩
    | true =>
      have hL : L.length + (T.length + 1) ≤ 129 := hL
      obtain ⟨⟨x, T2, d2⟩, hcut⟩ : ∃ r, cutB 38 T = r := ⟨_, rfl⟩
      obtain ⟨k1, k2, k3⟩ := cutB_short hcut
      have HCUT : Hid (∀ W, Calls Tryd.prog 52 #[.string ⟨T.toArray⟩, .int .u8 38] W fun e w' => e = .returned (cutV (x, T2, d2)) ∧ Below W.heap.size W w') := Lib.hid fun W => by
        have := refCut38_any T (by omega) W
        rwa [hcut] at this
      obtain ⟨b, hb⟩ : ∃ b, x.isEmpty = b := ⟨_, rfl⟩
      cases b with
      | true =>
        have hx : x = [] := by simpa using hb
        have hnext := Lib.hid ((contU_skip (L := L) hcut hx).trans hst.out)
        clear hst hcut hx
        go_wp2_with fail
        refine (HCUT.out _).mono ?_
        rintro e w1 ⟨rfl, hb1⟩
        unfold cutV
        dsimp only
        have hrow1 := own_belowR hrow hb1
        have hB1 := hB.trans (hb1.mono hB.size)
        clear hb1
        go_wp2_with fail
        go_roundw
        case rel => exact ⟨T2, L, d2, rfl, rfl, by omega, by cases d2 <;> simp at k3 ⊢ <;> omega, hrow1, hnext, hB1⟩
        case measure => cases d2 <;> simp [measU, ByteArray.size] at k3 ⊢ <;> omega
      | false =>
        have hx : x ≠ [] := by
          intro e
          rw [e] at hb
          cases hb
        have hnext := (contU_hit (L := L) hcut hx).trans hst.out
        obtain ⟨⟨n, v, s⟩, hcut2⟩ : ∃ r, cutB 61 x = r := ⟨_, rfl⟩
        have HCUT2 : Hid (∀ W, Calls Tryd.prog 52 #[.string ⟨x.toArray⟩, .int .u8 61] W fun e w' => e = .returned (cutV (n, v, s)) ∧ Below W.heap.size W w') := Lib.hid fun W => by
          have := refCut61_any x (by omega) W
          rwa [hcut2] at this
        have hp : prOf x = ⟨n, v, !s⟩ := by unfold prOf; rw [hcut2]
        rw [hp] at hnext
        have hnext := Lib.hid hnext
        clear hst hcut hx hcut2 hp
        go_wp2_with fail
        refine (HCUT.out _).mono ?_
        rintro e w1 ⟨rfl, hb1⟩
        unfold cutV
        dsimp only
        have hrow1 := own_belowR hrow hb1
        have hB1 := hB.trans (hb1.mono hB.size)
        clear hb1 hrow hB
        go_wp2_with fail
        refine (HCUT2.out _).mono ?_
        rintro e w2 ⟨rfl, hb2⟩
        unfold cutV
        dsimp only
        have hrow2 := own_belowR hrow1 hb2
        have hB2 := hB1.trans (hb2.mono hB1.size)
        clear hb2 hrow1 hB1
        have hone : w.heap.size ≤ (w2.alloc (.cells #[.string ⟨n.toArray⟩, .string ⟨v.toArray⟩, .bool !s] 40)).heap.size := by have := hB2.size; simp; omega
        have z1 : (Value.agg #[.string ⟨#[]⟩, .string ⟨#[]⟩, .bool false]).cells.size = 3 := by rfl
        have hnews : ∀ j u, (prsC [⟨n, v, !s⟩])[j]? = some u → (w2.alloc (.cells #[.string ⟨n.toArray⟩, .string ⟨v.toArray⟩, .bool !s] 40)).cell? ((⟨w2.heap.size, 0, none⟩ : Addr).add j) = some u := fun j u hu => (new_pair w2 ⟨n, v, !s⟩ _ j).trans hu
        go_wp2_with (at_builtin; refine wpList_append_own _ rfl _ _ 31 rfl w.heap.size 40 i0 (.agg #[.string ⟨#[]⟩, .string ⟨#[]⟩, .bool false]) 3 40 Tryd.underlying31 hi hz0 hz1 hz2 z1 (by decide) _ _ _ rfl (hrow2.alloc _) ⟨w2.heap.size, 0, none⟩ 1 1 (prsC [⟨n, v, !s⟩]) rfl rfl hnews (prsC_one _) (by unfold maxLen; omega) (by omega) hone ?_; intro v' w3 hown' hgrow _)
        go_roundw
        case rel =>
          refine ⟨T2, L ++ [⟨n, v, !s⟩], d2, rfl, rfl, by omega, by rw [List.length_append, List.length_singleton]; cases d2 <;> simp at k3 ⊢ <;> omega, ?_, hnext, below_grownR (hB2.alloc hB2.size _) hone hgrow (fun r hr => (hrow2.lt r hr).1)⟩
          rw [prsC_append, List.length_append]
          exact hown'
        case measure => cases d2 <;> simp [measU, ByteArray.size] at k3 ⊢ <;> omega
  · have HR : Hid (prsR q = .inl (chkN q)) := Lib.hid (by unfold prsR; rw [if_neg hc])
    rw [HR.out]
    obtain ⟨m, hm⟩ : ∃ m, chkN q = m := ⟨_, rfl⟩
    have HM := Lib.hid hm
    rw [hm] at hc ⊢
    have e0 : ((m : Int) != 0) = true := by rw [bne_iff_ne]; omega
    have e1 : ((m : Int) == 0) = false := by rw [beq_eq_false_iff_ne]; omega
    clear hm hc
    go_enter Tryd.func20, Tryd.ntmps20
    go_wp2_with fail
    refine (HCK.out _).mono ?_
    rintro e w' ⟨rfl, rfl⟩
    rw [HM.out]
    go_wp2_with fail
    go_ret2
    exact ⟨rfl, Below.refl _ _⟩
/-- The first k pairs said, the others as they came. -/
def mixU (k : Nat) (L : List Pr) : List Pr := (L.take k).map unP ++ L.drop k
theorem mixU_len (k : Nat) (L : List Pr) : (mixU k L).length = L.length := by
  unfold mixU
  simp
  omega
theorem mixU_zero (L : List Pr) : mixU 0 L = L := by simp [mixU]
theorem mixU_all (L : List Pr) : mixU L.length L = L.map unP := by simp [mixU]
theorem prsC_mid (A B : List Pr) (p : Pr) : prsC (A ++ p :: B) = prsC A ++ (prC p ++ prsC B) := by
  unfold prsC
  rw [List.flatMap_append, List.flatMap_cons]
theorem set_mid0 (P Q : List Value) (a b c u : Value) (n : Nat) (hn : P.length = n) : (P ++ ([a, b, c] ++ Q)).set n u = P ++ ([u, b, c] ++ Q) := by
  subst hn
  rw [List.set_append_right _ _ (Nat.le_refl _), Nat.sub_self]
  rfl
theorem set_mid1 (P Q : List Value) (a b c u : Value) (n : Nat) (hn : P.length = n) : (P ++ ([a, b, c] ++ Q)).set (n + 1) u = P ++ ([a, u, c] ++ Q) := by
  subst hn
  rw [List.set_append_right _ _ (by omega), Nat.add_sub_cancel_left]
  rfl
theorem mixU_set {L : List Pr} {k : Nat} (hk : k < L.length) : ((prsC (mixU k L)).set (k * 3) (.string ⟨(unL (L[k]).nm).toArray⟩)).set (k * 3 + 1) (.string ⟨(unL (L[k]).vl).toArray⟩) = prsC (mixU (k + 1) L) := by
  have e1 : mixU k L = (L.take k).map unP ++ L[k] :: L.drop (k + 1) := by unfold mixU; rw [List.drop_eq_getElem_cons hk]
  have e2 : mixU (k + 1) L = (L.take k).map unP ++ unP L[k] :: L.drop (k + 1) := by
    unfold mixU
    rw [List.take_succ_eq_append_getElem hk, List.map_append, List.append_assoc]
    rfl
  have hlen : (prsC ((L.take k).map unP)).length = k * 3 := by rw [prsC_length]; simp; omega
  rw [e1, e2, prsC_mid, prsC_mid]
  unfold prC
  rw [set_mid0 _ _ _ _ _ _ _ hlen, set_mid1 _ _ _ _ _ _ _ hlen]
  rfl
theorem mixU_at {L : List Pr} {k : Nat} (hk : k < L.length) : (prsC (mixU k L))[k * 3]? = some (.string ⟨(L[k]).nm.toArray⟩) ∧ (prsC (mixU k L))[k * 3 + 1]? = some (.string ⟨(L[k]).vl.toArray⟩) ∧ (prsC (mixU k L))[k * 3 + 2]? = some (.bool (L[k]).br) := by
  have hk2 : k < (mixU k L).length := by rw [mixU_len]; exact hk
  have hp : (mixU k L)[k] = L[k] := by
    have e1 : mixU k L = (L.take k).map unP ++ L[k] :: L.drop (k + 1) := by unfold mixU; rw [List.drop_eq_getElem_cons hk]
    simp only [e1]
    rw [List.getElem_append_right (by simp; omega)]
    simp [Nat.min_eq_left (Nat.le_of_lt hk)]
  have hl := prsC_length (mixU k L)
  have key : ∀ j, j < (prsC (mixU k L)).length → (prsC (mixU k L))[j]? = some ((prsC (mixU k L)).getD j (.int .i64 0)) := fun j hj => by
    rw [List.getD_eq_getElem?_getD, List.getElem?_eq_getElem hj]
    rfl
  obtain ⟨c0, c1, c2⟩ := prsC_at (mixU k L) k hk2
  rw [hp] at c0 c1 c2
  exact ⟨by rw [key _ (by omega), c0], by rw [key _ (by omega), c1], by rw [key _ (by omega), c2]⟩
set_option maxRecDepth 100000 in
set_option maxHeartbeats 8000000 in
theorem refDecoded_any (q : List UInt8) (hl : q.length < 100000) (w : World) :
    Calls Tryd.prog 23 #[.string ⟨q.toArray⟩] w fun e w' => PrsPost w.heap.size (decR q) e w' ∧ Below w.heap.size w w' := by
  have HPR : Hid (∀ W, Calls Tryd.prog 20 #[.string ⟨q.toArray⟩] W fun e w' => PrsPost W.heap.size (prsR q) e w' ∧ Below W.heap.size W w') := Lib.hid fun W => refPairs_any q hl W
  by_cases hc : chkN q = 0
  · have HP : Hid (prsR q = .inr (pairsL q)) := Lib.hid (by unfold prsR; rw [if_pos hc])
    have hq128 := chk_len hc
    obtain ⟨b, hb⟩ : ∃ b, okE q = b := ⟨_, rfl⟩
    cases b with
    | false =>
      have HR : Hid (decR q = .inl 3) := Lib.hid (by unfold decR; rw [if_pos hc, hb]; rfl)
      obtain ⟨j, hj⟩ := dec_no hb 0
      have HD : Hid (decV (decL q 0) = .tuple #[.string ⟨#[]⟩, .agg #[.int .i64 3, .int .i64 (j : Int)]]) := Lib.hid (by rw [hj]; rfl)
      rw [HR.out]
      clear hc hb hj
      go_enter Tryd.func23, Tryd.ntmps23
      go_wp2_with fail
      refine (HPR.out _).mono ?_
      rintro e w1 ⟨hpost, hb1⟩
      rw [HP.out] at hpost
      obtain ⟨v, rfl, hrow⟩ := hpost
      obtain ⟨ov, oc, rfl⟩ := own_slice hrow
      clear hrow
      go_wp2_with fail
      refine (refDecode_any q (by omega) _).mono ?_
      rintro e w2 ⟨rfl, hb2⟩
      rw [HD.out]
      have hB2 := hb1.trans (hb2.mono hb1.size)
      have hB3 := hB2.alloc hB2.size (.cells #[.int .i64 3, .int .i64 (j : Int)] 48)
      clear hb1 hb2
      go_wp2_with fail
      go_ret2
      exact ⟨rfl, hB3⟩
    | true =>
      have hall := ok_pairs q
      rw [hb] at hall
      have HR : Hid (decR q = .inr ((pairsL q).map unP)) := Lib.hid (by unfold decR; rw [if_pos hc, hb]; rfl)
      have hj := dec_ok hb 0
      obtain ⟨T, hT⟩ : ∃ T, unL q = T := ⟨_, rfl⟩
      have HD : Hid (decV (decL q 0) = .tuple #[.string ⟨T.toArray⟩, .agg #[.int .i64 0, .int .i64 0]]) := Lib.hid (by rw [hj, hT]; rfl)
      have hmem : ∀ p ∈ pairsL q, p.nm.length ≤ q.length ∧ p.vl.length ≤ q.length := fun p hp => pairs_mem hp
      have hplen := pairs_len q
      rw [HR.out]
      have HP := HP.out
      obtain ⟨L, hL⟩ : ∃ L, pairsL q = L := ⟨_, rfl⟩
      rw [hL] at HP hall hmem hplen ⊢
      have HP := Lib.hid HP
      have HALL : Hid (∀ p ∈ L, okE p.nm = true ∧ okE p.vl = true) := Lib.hid fun p hp => by
        have := List.all_eq_true.1 hall p hp
        unfold okP at this
        simpa using this
      have HMEM := Lib.hid hmem
      clear hc hb hj hT hall hmem hL HR
      go_enter Tryd.func23, Tryd.ntmps23
      go_wp2_with fail
      refine (HPR.out _).mono ?_
      rintro e w1 ⟨hpost, hb1⟩
      rw [HP.out] at hpost
      obtain ⟨v, rfl, hrow⟩ := hpost
      obtain ⟨ov, oc, rfl⟩ := own_slice hrow
      go_wp2_with fail
      refine (refDecode_any q (by omega) _).mono ?_
      rintro e w2 ⟨rfl, hb2⟩
      rw [HD.out]
      have hB2 := hb1.trans (hb2.mono hb1.size)
      have hB3 := hB2.alloc hB2.size (.cells #[.int .i64 0, .int .i64 0] 48)
      have hrow3 := (own_belowR hrow hb2).alloc (.cells #[.int .i64 0, .int .i64 0] 48)
      clear hb1 hb2 hrow hB2
      go_wp2_with fail
      go_loopw [8] (fun i wr => ∃ k : Nat, k ≤ L.length ∧ i = .int .i64 k ∧ wr.ownsRow w.heap.size 40 3 (.slice ov L.length oc) L.length (prsC (mixU k L)) ∧ Below w.heap.size w wr) (fun i _ => L.length - (intOf i).toNat)
      case atStart => exact ⟨0, by omega, rfl, by rw [mixU_zero]; exact hrow3, hB3⟩
      case round =>
      clear hrow3 hB3
      obtain ⟨k, hk, rfl, hrow, hB⟩ := hrel
      by_cases hlt : k < L.length
      · have d1 : decide ((k : Int) < (L.length : Int)) = true := decide_eq_true (by omega)
        have hb2 : (k : Int) < (L.length : Int) := by omega
        obtain ⟨g, cap, hv, -, -⟩ := hrow.form (by omega)
        injection hv with e1 e2 e3
        subst e1 e3
        obtain ⟨x0, x1, x2⟩ := mixU_at hlt
        have hset := mixU_set hlt
        have y0 := hrow.cellAt (k * 3) (by omega)
        have y1 := hrow.cellAt (k * 3 + 1) (by omega)
        rw [x0] at y0
        rw [x1] at y1
        have f0 := hrow.frozenAt (k * 3)
        have hgl := (hrow.lt g rfl)
        have hm1 := (HALL.out _ (List.getElem_mem hlt))
        have hm2 := (HMEM.out _ (List.getElem_mem hlt))
        have hj1 := dec_ok hm1.1 0
        have hj2 := dec_ok hm1.2 0
        obtain ⟨n, hn⟩ : ∃ n, (L[k]).nm = n := ⟨_, rfl⟩
        obtain ⟨u, hu⟩ : ∃ n, (L[k]).vl = n := ⟨_, rfl⟩
        rw [hn] at y0 hset hj1 hm2
        rw [hu] at x1 y1 hset hj2 hm2
        obtain ⟨n2, hn2⟩ : ∃ n2, unL n = n2 := ⟨_, rfl⟩
        obtain ⟨u2, hu2⟩ : ∃ n2, unL u = n2 := ⟨_, rfl⟩
        have HD1 : Hid (decV (decL n 0) = .tuple #[.string ⟨n2.toArray⟩, .agg #[.int .i64 0, .int .i64 0]]) := Lib.hid (by rw [hj1, hn2]; rfl)
        have HD2 : Hid (decV (decL u 0) = .tuple #[.string ⟨u2.toArray⟩, .agg #[.int .i64 0, .int .i64 0]]) := Lib.hid (by rw [hj2, hu2]; rfl)
        rw [hn2, hu2] at hset
        have HSET := Lib.hid hset
        have hn100 : n.length < 1000000 := by omega
        have hu100 : u.length < 1000000 := by omega
        clear hset x0 x2 hj1 hj2 hn hu hn2 hu2 hm1 hm2
        go_wp2_with fail
        refine (refDecode_any n hn100 _).mono ?_
        rintro e w3 ⟨rfl, hb3⟩
        rw [HD1.out]
        have hrow3 := own_belowR hrow hb3
        have hB3 := hB.trans (hb3.mono hB.size)
        have g0 := hrow3.frozenAt (k * 3)
        have z0 := (hb3.cell (p := ⟨g, k * 3, none⟩) hgl.2).trans y0
        have hgl3 := Nat.lt_of_lt_of_le hgl.2 hb3.size
        have hrow4 := (hrow3.stored (k * 3) (.string ⟨n2.toArray⟩)).1
        have z1 : (w3.setCell ⟨g, k * 3, none⟩ (.string ⟨n2.toArray⟩)).cell? ⟨g, k * 3 + 1, none⟩ = some (.string ⟨u.toArray⟩) := by
          rw [hrow4.cellAt (k * 3 + 1) (by omega), List.getElem?_set_ne (by omega)]
          exact x1
        have hB4 := hB3.setCell (p := ⟨g, k * 3, none⟩) hgl.1 (.string ⟨n2.toArray⟩)
        clear hb3 hrow3 hB3 y0 y1 f0 x1
        go_wp2_with fail
        obtain ⟨w4, hw4⟩ : ∃ W, w3.setCell ⟨g, k * 3, none⟩ (.string ⟨n2.toArray⟩) = W := ⟨_, rfl⟩
        rw [hw4] at hrow4 z1 hB4 ⊢
        clear hw4 z0 g0
        go_wp2_with fail
        refine (refDecode_any u hu100 _).mono ?_
        rintro e w5 ⟨rfl, hb5⟩
        rw [HD2.out]
        have hrow5 := own_belowR hrow4 hb5
        have hB5 := hB4.trans (hb5.mono hB4.size)
        have g1 := hrow5.frozenAt (k * 3 + 1)
        have hgl5 := (hrow4.lt g rfl).2
        have z2 := (hb5.cell (p := ⟨g, k * 3 + 1, none⟩) hgl5).trans z1
        have hrow6 := (hrow5.stored (k * 3 + 1) (.string ⟨u2.toArray⟩)).1
        have hB6 := hB5.setCell (p := ⟨g, k * 3 + 1, none⟩) hgl.1 (.string ⟨u2.toArray⟩)
        rw [HSET.out] at hrow6
        clear hb5 hrow5 hB5 z1
        go_wp2_with fail
        go_roundw
        case rel => exact ⟨k + 1, by omega, by go_num, hrow6, hB6⟩
        case measure => simp [intOf]; omega
      · have d1 : decide ((k : Int) < (L.length : Int)) = false := decide_eq_false (by omega)
        obtain rfl : k = L.length := by omega
        rw [mixU_all] at hrow
        go_wp2_with fail
        go_ret2
        exact ⟨⟨_, rfl, by rw [List.length_map]; exact hrow⟩, hB⟩
  · have HP : Hid (prsR q = .inl (chkN q)) := Lib.hid (by unfold prsR; rw [if_neg hc])
    have HR : Hid (decR q = .inl (chkN q)) := Lib.hid (by unfold decR; rw [if_neg hc])
    rw [HR.out]
    have HP := HP.out
    obtain ⟨m, hm⟩ : ∃ m, chkN q = m := ⟨_, rfl⟩
    rw [hm] at hc HP ⊢
    have HP := Lib.hid HP
    have e0 : ((m : Int) != 0) = true := by rw [bne_iff_ne]; omega
    have e1 : ((m : Int) == 0) = false := by rw [beq_eq_false_iff_ne]; omega
    clear hm hc HR
    go_enter Tryd.func23, Tryd.ntmps23
    go_wp2_with fail
    refine (HPR.out _).mono ?_
    rintro e w' ⟨hpost, hb⟩
    rw [HP.out] at hpost
    obtain rfl := hpost
    go_wp2_with fail
    go_ret2
    exact ⟨rfl, hb⟩
end Go.Proofs.YtbbphchhdppipaaDoor
