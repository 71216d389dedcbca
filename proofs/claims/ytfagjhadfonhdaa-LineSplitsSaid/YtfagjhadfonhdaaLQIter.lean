/-
  The program's lines of a machine: the iterator, for every loop body that leaves the machine alone.
-/
import Derived.RangeFuncNested
import Derived.RangeFuncCalls
import Derived.RangeFuncLeaves
import Derived.RangeFuncBox
import Derived.Shelf.Abstract
import Derived.Shelf.RegionOpen
import Derived.OwnWalkIn
import Derived.TacticsInMore
import Derived.LoopNIn
import Derived.LoopIn
import Derived.RegionIn
import Derived.Sort.CutIn
import Derived.Test.YtfagjhadfonhdaaLQLine
namespace Go.Proofs.Ytfagjhadfonhdaa
open Go.RowKit Go.Shelf
attribute [local go_sem] Oper.semAt_some
/-- What the machine reads lies as it lay. -/
def KA (B bc Bt : Nat) (W W' : World) : Prop := W.heap.size ≤ W'.heap.size ∧ W'.heap[B]? = W.heap[B]? ∧ W'.heap[bc]? = W.heap[bc]? ∧ W'.heap[Bt]? = W.heap[Bt]?
abbrev XL : Type := Nat × Ln
def encX (x : XL) : Array Value := #[.int .i64 (x.1 : Int), lnV x.2]
/-- How many bytes a machine in memory has taken. -/
def mTk (W : World) (B : Nat) : Nat := match W.cell? ⟨B, 4, none⟩ with
  | some (.int _ k) => k.toNat
  | _ => 0
theorem mTk_at {W : World} {B bc cap k : Nat} {n : Int} {S C : List UInt8} {g : Bool} (h : CBlk 59 W B (mC n S g bc C cap k)) : mTk W B = k := by
  obtain ⟨-, -, -, -, c4⟩ := (show CBlk 59 W B [.int .i64 n, .string ⟨S.toArray⟩, .bool g, .slice (some ⟨bc, 0, none⟩) C.length cap, .int .i64 (k : Int)] from h).cells5
  unfold mTk
  rw [c4]
  simp
/-- Where the iterator stands: its lines so far, what of a line was begun, how many bytes it has taken. -/
structure ItS (lim : Int) (S0 C : List UInt8) (pre : List XL) (T : List UInt8) (k : Nat) : Prop where
  hk : k ≤ C.length
  hp : pre.length ≤ k
  hT : (T.length : Int) ≤ lim
  hx : pre ++ feedX lim k T (C.drop k) = feedX lim 0 S0 C
  hs : (feedL lim T (C.drop k)).1 = (feedL lim S0 C).1
theorem oneL_rest (n : Int) : ∀ (R T : List UInt8), (oneL n T R).2.2.2 = true → ∃ d, (oneL n T R).2.2.1 = R.drop d ∧ 1 ≤ d ∧ d ≤ R.length
  | [], T, h => by simp [oneL] at h
  | c :: r, T, h => by
    rw [show oneL n T (c :: r) = if c.toNat = 10 then (⟨n, [], false⟩, lineR T, r, true) else if (T.length : Int) = n then (⟨n, [], true⟩, ⟨[], false⟩, [], false) else oneL n (T ++ [c]) r from rfl] at h ⊢
    by_cases h1 : c.toNat = 10
    · rw [if_pos h1]
      exact ⟨1, rfl, Nat.le_refl _, by simp⟩
    · rw [if_neg h1] at h ⊢
      by_cases h2 : (T.length : Int) = n
      · rw [if_pos h2] at h
        simp at h
      · rw [if_neg h2] at h ⊢
        obtain ⟨d, e, h3, h4⟩ := oneL_rest n r (T ++ [c]) h
        exact ⟨d + 1, by rw [e]; rfl, by omega, by simp; omega⟩
/-- Behind a line. -/
theorem ItS.line {lim : Int} {S0 C : List UInt8} {pre : List XL} {T : List UInt8} {k : Nat} (h : ItS lim S0 C pre T k) (hl : 0 ≤ lim) (hi : (oneL lim T (C.drop k)).2.2.2 = true) :
    k < tkN C k (oneL lim T (C.drop k)) ∧ (oneL lim T (C.drop k)).1 = ⟨lim, [], false⟩ ∧ ItS lim S0 C (pre ++ [(tkN C k (oneL lim T (C.drop k)), (oneL lim T (C.drop k)).2.1)]) [] (tkN C k (oneL lim T (C.drop k))) := by
  obtain ⟨d, hd, d1, d2⟩ := oneL_rest lim (C.drop k) T hi
  rw [List.length_drop] at d2
  have hlen : (oneL lim T (C.drop k)).2.2.1.length = C.length - k - d := by rw [hd, List.length_drop, List.length_drop]
  have htk : tkN C k (oneL lim T (C.drop k)) = k + d := by
    unfold tkN
    rw [if_pos hi, hlen]
    have := h.hk
    omega
  have hoff : k + ((C.drop k).length - (oneL lim T (C.drop k)).2.2.1.length) = k + d := by
    rw [hlen, List.length_drop]
    omega
  have hdd : (oneL lim T (C.drop k)).2.2.1 = C.drop (k + d) := by rw [hd, List.drop_drop]
  have hX := (one_feedX lim (C.drop k) T k).1 hi
  obtain ⟨hs1, -, hF⟩ := (one_feed lim (C.drop k) T).1 hi
  rw [hoff, hdd] at hX
  rw [htk]
  refine ⟨by omega, hs1, ⟨by have := h.hk; omega, by have := h.hp; simp; omega, by simpa using hl, ?_, ?_⟩⟩
  · rw [← h.hx, hX]
    simp
  · rw [← h.hs, hF, hdd]
/-- Where no line is left. -/
theorem ItS.over {lim : Int} {S0 C : List UInt8} {pre : List XL} {T : List UInt8} {k : Nat} (h : ItS lim S0 C pre T k) (hi : (oneL lim T (C.drop k)).2.2.2 = false) :
    pre = feedX lim 0 S0 C ∧ (oneL lim T (C.drop k)).1 = (feedL lim S0 C).1 := by
  refine ⟨?_, ?_⟩
  · rw [← h.hx, (one_feedX lim (C.drop k) T k).2 hi, List.append_nil]
  · rw [← h.hs, (one_feed lim (C.drop k) T).2 hi]
/-- How the iterator ends: all lines were handed over, or the body left the loop. -/
def ItPost (lim : Int) (S0 C : List UInt8) (B bc cap : Nat) (J Jx : List XL → World → Prop) (W' : World) : Prop :=
  (∃ k, J (feedX lim 0 S0 C) W' ∧ CBlk 59 W' B (mC lim (feedL lim S0 C).1.txt (feedL lim S0 C).1.lg bc C cap k)) ∨
  (∃ pre x rest, pre ++ x :: rest = feedX lim 0 S0 C ∧ Jx (pre ++ [x]) W' ∧ CBlk 59 W' B (mC lim [] false bc C cap x.1))
set_option maxRecDepth 100000 in
set_option maxHeartbeats 4000000 in
theorem lines1_in (n : Nat) (hn : 1 ≤ n) (lp Bt B bc cap : Nat) (lim : Int) (S0 C : List UInt8) (hlim : 1 ≤ lim ∧ lim ≤ 1536) (hS0 : (S0.length : Int) ≤ lim) (hC : C.length < 100000) (hcap : C.length ≤ cap ∧ cap ≤ maxLen) (hne : bc ≠ B) (hne2 : Bt ≠ B) (J Jx : List XL → World → Prop) (W : World)
    (hJ : ∀ pre W W', J pre W → W.grownBy W' (some B) → J pre W')
    (hY : ∀ pre x W, J pre W → CBlk 59 W B (mC lim [] false bc C cap x.1) → pre.length < x.1 → x.1 ≤ C.length → YieldAt Fence.wide (n - 1) Try.prog lp (encX x) W fun e W' =>
      (e = .returned (.bool true) ∧ J (pre ++ [x]) W' ∧ KA B bc Bt W W') ∨ (e = .returned (.bool false) ∧ Jx (pre ++ [x]) W' ∧ KA B bc Bt W W'))
    (hbox : W.cell? ⟨Bt, 0, none⟩ = some (.pointer (some ⟨B, 0, none⟩))) (hm : CBlk 59 W B (mC lim S0 false bc C cap 0)) (hch : ChAt W bc C) (h0 : J [] W) :
    CallsIn Fence.wide n Try.prog 44 #[.func (.yield lp) #[] #[], .pointer (some ⟨Bt, 0, none⟩)] W fun e W' => (∃ v, e = .returned v) ∧ ItPost lim S0 C B bc cap J Jx W' := by
  refine callsIn_of_wp Try.func44 rfl trivial ?_ rfl
  simp only [Try.ntmps44, List.size_toArray, List.length_cons, List.length_nil, Nat.reduceAdd, Nat.reduceSub, Array.replicate_succ, Array.replicate_zero, List.push_toArray, List.append_toArray, List.nil_append, List.cons_append]
  have HJ := Lib.hid hJ
  have HY := Lib.hid hY
  have HC := Lib.hid hcap
  clear hJ hY hcap
  gi_wp2
  gi_loopw [4] (fun _ wr => ∃ (pre : List XL) (T : List UInt8) (k : Nat), Hid (ItS lim S0 C pre T k) ∧ Hid (J pre wr) ∧ Hid (CBlk 59 wr B (mC lim T false bc C cap k)) ∧ Hid (ChAt wr bc C) ∧ wr.cell? ⟨Bt, 0, none⟩ = some (.pointer (some ⟨B, 0, none⟩))) (fun _ wr => C.length - mTk wr B)
  case atStart => exact ⟨[], S0, 0, Lib.hid ⟨Nat.zero_le _, Nat.zero_le _, hS0, by rw [List.drop_zero]; rfl, by rw [List.drop_zero]⟩, Lib.hid h0, Lib.hid hm, Lib.hid hch, hbox⟩
  case round =>
    clear hbox hm hch h0
    obtain ⟨pre, T, k, hI, hJp, hM, hCH, hb⟩ := hrel
    rename World => W1
    have hT := hI.out.hT
    have hk := hI.out.hk
    have HL := Lib.hid (mline_any B bc cap k lim T C hlim hT hk hC HC.out hne W1 hM.out hCH.out)
    have hline := hI.out.line (by omega)
    have hover := hI.out.over
    obtain ⟨⟨s', x, rest, is⟩, ho⟩ : ∃ o, oneL lim T (C.drop k) = o := ⟨_, rfl⟩
    rw [ho] at hline hover
    rw [ho] at HL
    have HLN := Lib.hid hline
    have HOV := Lib.hid hover
    have hMK := mTk_at hM.out
    have HMK := Lib.hid hMK
    clear ho hline hover hMK
    dsimp only at HL HLN HOV
    obtain ⟨k', hk'⟩ : ∃ k', tkN C k (s', x, rest, is) = k' := ⟨_, rfl⟩
    rw [hk'] at HL HLN
    clear hk'
    gi_wp2_with fail
    refine ⟨trivial, ?_⟩
    refine (callsIn_wide.2 HL.out).mono ?_
    rintro e w1 ⟨rfl, hm1, hg1⟩
    unfold lnV
    obtain ⟨W2, hW2⟩ : ∃ W2, w1.alloc (.cells #[.string ⟨x.tx.toArray⟩, .bool x.gd] 27) = W2 := ⟨_, rfl⟩
    have hg2 : W1.grownBy W2 (some B) := by rw [← hW2]; exact gr_alloc hg1 _
    have HJ2 := Lib.hid (HJ.out _ _ _ hJp.out hg2)
    have HM2 : Hid (CBlk 59 W2 B (mC lim s'.txt s'.lg bc C cap k')) := Lib.hid (by rw [← hW2]; exact hm1.alloc _)
    have HCH2 := Lib.hid (hCH.out.grown hg2 hne)
    have hb2 : W2.cell? ⟨Bt, 0, none⟩ = some (.pointer (some ⟨B, 0, none⟩)) := hg2.cell hb (fun e => hne2 (by injection e))
    have hone : CBlk 27 W2 w1.heap.size [.string ⟨x.tx.toArray⟩, .bool x.gd] := by rw [← hW2]; exact CBlk.new _ w1 _
    obtain ⟨o0, o1⟩ := hone.cells2
    have HG2 := Lib.hid hg2
    clear hm1 hg1 hg2 hone hb hJp hM hCH HL
    gi_upto_region 1 with fail
    clear hW2
    cases is
    · obtain ⟨h1, h2⟩ := HOV.out rfl
      have H1 := Lib.hid h1
      have H2 := Lib.hid h2
      clear h1 h2
      refine wpIn_region_any (by kernel_rfl) ?_
      change wpAnyIn _ _ _ _ _ _ _ _ _ (World.drew _)
      refine wpAnyIn_take (i := 0) (v := ?_) rfl rfl (by kernel_rfl) (by kernel_rfl) (by kernel_rfl) (fun _ _ _ h => h) ⟨Or.inl ⟨by rfl, ?_⟩, fun _ => rfl⟩ ?_
      rotate_left
      focus ((intro w; go_simp) <;> (with_reducible rfl))
      try simp only [Act.put, List.getElem_toArray, List.getElem_cons_zero, List.setIfInBounds_toArray, List.set_cons_zero, List.set_cons_succ]
      refine wpAnyIn_take (i := 1) (v := ?_) rfl rfl (by kernel_rfl) (by kernel_rfl) (by kernel_rfl) (fun _ _ _ h => h) ⟨Or.inl ⟨by rfl, ?_⟩, fun _ => rfl⟩ ?_
      rotate_left
      focus ((intro w; go_simp) <;> (with_reducible rfl))
      try simp only [Act.put, List.getElem_toArray, List.getElem_cons_succ, List.getElem_cons_zero, List.setIfInBounds_toArray, List.set_cons_zero, List.set_cons_succ]
      refine wpAnyIn_take (i := 2) (v := ?_) rfl rfl (by kernel_rfl) (by kernel_rfl) (by kernel_rfl) (fun _ _ _ h => h) ⟨Or.inl ⟨by rfl, ?_⟩, fun _ => rfl⟩ ?_
      rotate_left
      focus ((intro w; go_simp) <;> (with_reducible rfl))
      try simp only [Act.put, List.getElem_toArray, List.getElem_cons_succ, List.getElem_cons_zero, List.setIfInBounds_toArray, List.set_cons_zero, List.set_cons_succ]
      refine wpAnyIn_take (i := 3) (v := undef) rfl rfl (by kernel_rfl) (by kernel_rfl) (by kernel_rfl) (fun _ _ _ h => h) ⟨Or.inr ⟨by rfl, rfl⟩, fun _ => rfl⟩ ?_
      try simp only [Act.put, List.getElem_toArray, List.getElem_cons_succ, List.getElem_cons_zero, List.setIfInBounds_toArray, List.set_cons_zero, List.set_cons_succ]
      refine wpAnyIn_take (i := 4) (v := undef) rfl rfl (by kernel_rfl) (by kernel_rfl) (by kernel_rfl) (fun _ _ _ h => h) ⟨Or.inr ⟨by rfl, rfl⟩, fun _ => rfl⟩ ?_
      try simp only [Act.put, List.getElem_toArray, List.getElem_cons_succ, List.getElem_cons_zero, List.setIfInBounds_toArray, List.set_cons_zero, List.set_cons_succ]
      refine wpAnyIn_take (i := 5) (v := undef) rfl rfl (by kernel_rfl) (by kernel_rfl) (by kernel_rfl) (fun _ _ _ h => h) ⟨Or.inr ⟨by rfl, rfl⟩, fun _ => rfl⟩ ?_
      try simp only [Act.put, List.getElem_toArray, List.getElem_cons_succ, List.getElem_cons_zero, List.setIfInBounds_toArray, List.set_cons_zero, List.set_cons_succ]
      refine wpAnyIn_take (i := 6) (v := undef) rfl rfl (by kernel_rfl) (by kernel_rfl) (by kernel_rfl) (fun _ _ _ h => h) ⟨Or.inr ⟨by rfl, rfl⟩, fun _ => rfl⟩ ?_
      try simp only [Act.put, List.getElem_toArray, List.getElem_cons_succ, List.getElem_cons_zero, List.setIfInBounds_toArray, List.set_cons_zero, List.set_cons_succ]
      refine wpAnyIn_take (i := 7) (v := undef) rfl rfl (by kernel_rfl) (by kernel_rfl) (by kernel_rfl) (fun _ _ _ h => h) ⟨Or.inr ⟨by rfl, rfl⟩, fun _ => rfl⟩ ?_
      try simp only [Act.put, List.getElem_toArray, List.getElem_cons_succ, List.getElem_cons_zero, List.setIfInBounds_toArray, List.set_cons_zero, List.set_cons_succ]
      refine wpAnyIn_take (i := 8) (v := undef) rfl rfl (by kernel_rfl) (by kernel_rfl) (by kernel_rfl) (fun _ _ _ h => h) ⟨Or.inr ⟨by rfl, rfl⟩, fun _ => rfl⟩ ?_
      try simp only [Act.put, List.getElem_toArray, List.getElem_cons_succ, List.getElem_cons_zero, List.setIfInBounds_toArray, List.set_cons_zero, List.set_cons_succ]
      refine wpAnyIn_ready (rs := [9]) (by kernel_rfl) (by simp) ?_
      refine AllReadyIn.cons rfl (fun K hK => ?_) AllReadyIn.nil
      go_simp
      refine ⟨fun _ _ => trivial, hK _ _ ?_⟩
      clear hK K
      try simp only [Act.put, List.getElem_toArray, List.getElem_cons_succ, List.getElem_cons_zero, List.setIfInBounds_toArray, List.set_cons_zero, List.set_cons_succ]
      refine wpAnyIn_take (i := 10) (v := undef) rfl rfl (by kernel_rfl) (by kernel_rfl) (by kernel_rfl) (fun _ _ _ h => h) ⟨Or.inr ⟨by rfl, rfl⟩, fun _ => rfl⟩ ?_
      try simp only [Act.put, List.getElem_toArray, List.getElem_cons_succ, List.getElem_cons_zero, List.setIfInBounds_toArray, List.set_cons_zero, List.set_cons_succ]
      refine wpAnyIn_take (i := 11) (v := ?_) rfl rfl (by kernel_rfl) (by kernel_rfl) (by kernel_rfl) (fun _ _ _ h => h) ⟨Or.inl ⟨by rfl, ?_⟩, fun _ => rfl⟩ ?_
      rotate_left
      focus ((intro w; go_simp) <;> (with_reducible rfl))
      try simp only [Act.put, List.getElem_toArray, List.getElem_cons_succ, List.getElem_cons_zero, List.setIfInBounds_toArray, List.set_cons_zero, List.set_cons_succ]
      refine wpAnyIn_done (by kernel_rfl) ?_ _
      gi_wp2
      refine bodyPost_ret (results_none rfl _ _ _) rfl ?_
      refine ⟨⟨_, rfl⟩, .inl ⟨k', ?_, ?_⟩⟩
      · rw [← H1.out]
        exact HJ.out _ _ _ HJ2.out (gr_drew (World.grownBy.refl _ _))
      · rw [← H2.out]
        exact HM2.out
    · obtain ⟨hlt, rfl, hI3⟩ := HLN.out rfl
      have HI3 := Lib.hid hI3
      obtain ⟨V, hV⟩ : ∃ V, W2.drew = V := ⟨_, rfl⟩
      have hJV : J pre V := by rw [← hV]; exact HJ.out _ _ _ HJ2.out (gr_drew (World.grownBy.refl _ _))
      have HMV : Hid (CBlk 59 V B (mC lim [] false bc C cap k')) := Lib.hid (by rw [← hV]; exact HM2.out)
      have HCHV : Hid (ChAt V bc C) := Lib.hid (by rw [← hV]; exact HCH2.out)
      have hbV : V.cell? ⟨Bt, 0, none⟩ = some (.pointer (some ⟨B, 0, none⟩)) := by rw [← hV]; exact hb2
      have o0V : V.cell? ⟨w1.heap.size, 0, none⟩ = some (.string ⟨x.tx.toArray⟩) := by rw [← hV]; exact o0
      have o1V : V.cell? ⟨w1.heap.size, 1, none⟩ = some (.bool x.gd) := by rw [← hV]; exact o1
      obtain ⟨c0, c1, c2, c3, c4⟩ := (show CBlk 59 V B [.int .i64 lim, .string ⟨#[]⟩, .bool false, .slice (some ⟨bc, 0, none⟩) C.length cap, .int .i64 (k' : Int)] from HMV.out).cells5
      obtain ⟨fn, tmps, assign, body, hy, hR⟩ := HY.out pre (k', x) V hJV HMV.out (by have := hI.out.hp; dsimp only; omega) hI3.hk
      rw [show encX (k', x) = #[.int .i64 (k' : Int), .agg #[.string ⟨x.tx.toArray⟩, .bool x.gd]] from rfl] at hy
      have HR := Lib.hid hR
      clear hR hI3 hJV o0 o1 hb2 HJ2 HM2 HCH2 HOV HLN
      refine wpIn_region_any (by kernel_rfl) ?_
      change wpAnyIn _ _ _ _ _ _ _ _ _ (World.drew _)
      rw [hV]
      clear hV
      refine wpAnyIn_take (i := 0) (v := ?_) rfl rfl (by kernel_rfl) (by kernel_rfl) (by kernel_rfl) (fun _ _ _ h => h) ⟨Or.inl ⟨by rfl, ?_⟩, fun _ => rfl⟩ ?_
      rotate_left
      focus ((intro w; go_simp) <;> (with_reducible rfl))
      try simp only [Act.put, List.getElem_toArray, List.getElem_cons_zero, List.setIfInBounds_toArray, List.set_cons_zero, List.set_cons_succ]
      refine wpAnyIn_take (i := 1) (v := ?_) rfl rfl (by kernel_rfl) (by kernel_rfl) (by kernel_rfl) (fun _ _ _ h => h) ⟨Or.inl ⟨by rfl, ?_⟩, fun _ => rfl⟩ ?_
      rotate_left
      focus ((intro w; go_simp) <;> (with_reducible rfl))
      try simp only [Act.put, List.getElem_toArray, List.getElem_cons_succ, List.getElem_cons_zero, List.setIfInBounds_toArray, List.set_cons_zero, List.set_cons_succ]
      refine wpAnyIn_take (i := 2) (v := ?_) rfl rfl (by kernel_rfl) (by kernel_rfl) (by kernel_rfl) (fun _ _ _ h => h) ⟨Or.inl ⟨by rfl, ?_⟩, fun _ => rfl⟩ ?_
      rotate_left
      focus ((intro w; go_simp) <;> (with_reducible rfl))
      try simp only [Act.put, List.getElem_toArray, List.getElem_cons_succ, List.getElem_cons_zero, List.setIfInBounds_toArray, List.set_cons_zero, List.set_cons_succ]
      refine wpAnyIn_take (i := 3) (v := ?_) rfl rfl (by kernel_rfl) (by kernel_rfl) (by kernel_rfl) (fun _ _ _ h => h) ⟨Or.inl ⟨by rfl, ?_⟩, fun _ => rfl⟩ ?_
      rotate_left
      focus ((intro w; go_simp) <;> (with_reducible rfl))
      try simp only [Act.put, List.getElem_toArray, List.getElem_cons_succ, List.getElem_cons_zero, List.setIfInBounds_toArray, List.set_cons_zero, List.set_cons_succ]
      refine wpAnyIn_ready (rs := [4, 8]) (by kernel_rfl) (by simp) ?_
      refine AllReadyIn.cons rfl (fun K hK => ?_) (AllReadyIn.cons rfl (fun K hK => ?_) AllReadyIn.nil)
      · go_simp
        refine hK _ _ ?_
        clear hK K
        try simp only [Act.put, List.getElem_toArray, List.getElem_cons_succ, List.getElem_cons_zero, List.setIfInBounds_toArray, List.set_cons_zero, List.set_cons_succ]
        refine wpAnyIn_take (i := 5) (v := ?_) rfl rfl (by kernel_rfl) (by kernel_rfl) (by kernel_rfl) (fun _ _ _ h => h) ⟨Or.inl ⟨by rfl, ?_⟩, fun _ => rfl⟩ ?_
        rotate_left
        focus ((intro w; go_simp) <;> (with_reducible rfl))
        try simp only [Act.put, List.getElem_toArray, List.getElem_cons_succ, List.getElem_cons_zero, List.setIfInBounds_toArray, List.set_cons_zero, List.set_cons_succ]
        refine wpAnyIn_take (i := 6) (v := ?_) rfl rfl (by kernel_rfl) (by kernel_rfl) (by kernel_rfl) (fun _ _ _ h => h) ⟨Or.inl ⟨by rfl, ?_⟩, fun _ => rfl⟩ ?_
        rotate_left
        focus ((intro w; go_simp) <;> (with_reducible rfl))
        try simp only [Act.put, List.getElem_toArray, List.getElem_cons_succ, List.getElem_cons_zero, List.setIfInBounds_toArray, List.set_cons_zero, List.set_cons_succ]
        refine wpAnyIn_ready (rs := [7, 8]) (by kernel_rfl) (by simp) ?_
        refine AllReadyIn.cons rfl (fun K hK => ?_) (AllReadyIn.cons rfl (fun K hK => ?_) AllReadyIn.nil)
        · go_simp
          refine hK _ _ ?_
          clear hK K
          try simp only [Act.put, List.getElem_toArray, List.getElem_cons_succ, List.getElem_cons_zero, List.setIfInBounds_toArray, List.set_cons_zero, List.set_cons_succ]
          refine wpAnyIn_ready (rs := [8]) (by kernel_rfl) (by simp) ?_
          refine AllReadyIn.cons rfl (fun K hK => ?_) AllReadyIn.nil
          go_simp
          refine hK _ _ ?_
          clear hK K
          try simp only [Act.put, List.getElem_toArray, List.getElem_cons_succ, List.getElem_cons_zero, List.setIfInBounds_toArray, List.set_cons_zero, List.set_cons_succ]
          refine wpAnyIn_ready (rs := [9]) (by kernel_rfl) (by simp) ?_
          refine AllReadyIn.cons rfl (fun K hK => ?_) AllReadyIn.nil
          go_simp
          refine HR.out.mono ?_
          rintro e W3 (⟨rfl, hJ3, hk3⟩ | ⟨rfl, hJx3, hk3⟩)
          · dsimp only
            refine hK _ _ ?_
            clear hK K
            try simp only [Act.put, List.getElem_toArray, List.getElem_cons_succ, List.getElem_cons_zero, List.setIfInBounds_toArray, List.set_cons_zero, List.set_cons_succ]
            refine wpAnyIn_take (i := 10) (v := ?_) rfl rfl (by kernel_rfl) (by kernel_rfl) (by kernel_rfl) (fun _ _ _ h => h) ⟨Or.inl ⟨by rfl, ?_⟩, fun _ => rfl⟩ ?_
            rotate_left
            focus ((intro w; go_simp) <;> (with_reducible rfl))
            try simp only [Act.put, List.getElem_toArray, List.getElem_cons_succ, List.getElem_cons_zero, List.setIfInBounds_toArray, List.set_cons_zero, List.set_cons_succ]
            refine wpAnyIn_take (i := 11) (v := ?_) rfl rfl (by kernel_rfl) (by kernel_rfl) (by kernel_rfl) (fun _ _ _ h => h) ⟨Or.inl ⟨by rfl, ?_⟩, fun _ => rfl⟩ ?_
            rotate_left
            focus ((intro w; go_simp) <;> (with_reducible rfl))
            try simp only [Act.put, List.getElem_toArray, List.getElem_cons_succ, List.getElem_cons_zero, List.setIfInBounds_toArray, List.set_cons_zero, List.set_cons_succ]
            refine wpAnyIn_done (by kernel_rfl) ?_ _
            gi_wp2
            go_roundw
            case rel => exact ⟨pre ++ [(k', x)], [], k', HI3, Lib.hid hJ3, Lib.hid ((show W3.heap[B]? = _ from hk3.2.1).trans HMV.out), Lib.hid (HCHV.out.block hk3.2.2.1 hk3.1), (World.cell?_of_block (a := ⟨Bt, 0, none⟩) hk3.2.2.2).trans hbV⟩
            case measure => rw [HMK.out, mTk_at (show CBlk 59 W3 B (mC lim [] false bc C cap k') from (show W3.heap[B]? = _ from hk3.2.1).trans HMV.out)]; have := HI3.out.hk; omega
          · dsimp only
            refine hK _ _ ?_
            clear hK K
            try simp only [Act.put, List.getElem_toArray, List.getElem_cons_succ, List.getElem_cons_zero, List.setIfInBounds_toArray, List.set_cons_zero, List.set_cons_succ]
            refine wpAnyIn_take (i := 10) (v := ?_) rfl rfl (by kernel_rfl) (by kernel_rfl) (by kernel_rfl) (fun _ _ _ h => h) ⟨Or.inl ⟨by rfl, ?_⟩, fun _ => rfl⟩ ?_
            rotate_left
            focus ((intro w; go_simp) <;> (with_reducible rfl))
            try simp only [Act.put, List.getElem_toArray, List.getElem_cons_succ, List.getElem_cons_zero, List.setIfInBounds_toArray, List.set_cons_zero, List.set_cons_succ]
            refine wpAnyIn_take (i := 11) (v := ?_) rfl rfl (by kernel_rfl) (by kernel_rfl) (by kernel_rfl) (fun _ _ _ h => h) ⟨Or.inl ⟨by rfl, ?_⟩, fun _ => rfl⟩ ?_
            rotate_left
            focus ((intro w; go_simp) <;> (with_reducible rfl))
            try simp only [Act.put, List.getElem_toArray, List.getElem_cons_succ, List.getElem_cons_zero, List.setIfInBounds_toArray, List.set_cons_zero, List.set_cons_succ]
            refine wpAnyIn_done (by kernel_rfl) ?_ _
            gi_wp2
            refine bodyPost_ret (results_none rfl _ _ _) rfl ?_
            refine ⟨⟨_, rfl⟩, .inr ⟨pre, (k', x), feedX lim k' [] (C.drop k'), ?_, hJx3, (show W3.heap[B]? = _ from hk3.2.1).trans HMV.out⟩⟩
            have := HI3.out.hx
            rw [← this]
            simp
        · go_simp
          refine hK _ _ ?_
          clear hK K
          try simp only [Act.put, List.getElem_toArray, List.getElem_cons_succ, List.getElem_cons_zero, List.setIfInBounds_toArray, List.set_cons_zero, List.set_cons_succ]
          refine wpAnyIn_ready (rs := [7]) (by kernel_rfl) (by simp) ?_
          refine AllReadyIn.cons rfl (fun K hK => ?_) AllReadyIn.nil
          go_simp
          refine hK _ _ ?_
          clear hK K
          try simp only [Act.put, List.getElem_toArray, List.getElem_cons_succ, List.getElem_cons_zero, List.setIfInBounds_toArray, List.set_cons_zero, List.set_cons_succ]
          refine wpAnyIn_ready (rs := [9]) (by kernel_rfl) (by simp) ?_
          refine AllReadyIn.cons rfl (fun K hK => ?_) AllReadyIn.nil
          go_simp
          refine HR.out.mono ?_
          rintro e W3 (⟨rfl, hJ3, hk3⟩ | ⟨rfl, hJx3, hk3⟩)
          · dsimp only
            refine hK _ _ ?_
            clear hK K
            try simp only [Act.put, List.getElem_toArray, List.getElem_cons_succ, List.getElem_cons_zero, List.setIfInBounds_toArray, List.set_cons_zero, List.set_cons_succ]
            refine wpAnyIn_take (i := 10) (v := ?_) rfl rfl (by kernel_rfl) (by kernel_rfl) (by kernel_rfl) (fun _ _ _ h => h) ⟨Or.inl ⟨by rfl, ?_⟩, fun _ => rfl⟩ ?_
            rotate_left
            focus ((intro w; go_simp) <;> (with_reducible rfl))
            try simp only [Act.put, List.getElem_toArray, List.getElem_cons_succ, List.getElem_cons_zero, List.setIfInBounds_toArray, List.set_cons_zero, List.set_cons_succ]
            refine wpAnyIn_take (i := 11) (v := ?_) rfl rfl (by kernel_rfl) (by kernel_rfl) (by kernel_rfl) (fun _ _ _ h => h) ⟨Or.inl ⟨by rfl, ?_⟩, fun _ => rfl⟩ ?_
            rotate_left
            focus ((intro w; go_simp) <;> (with_reducible rfl))
            try simp only [Act.put, List.getElem_toArray, List.getElem_cons_succ, List.getElem_cons_zero, List.setIfInBounds_toArray, List.set_cons_zero, List.set_cons_succ]
            refine wpAnyIn_done (by kernel_rfl) ?_ _
            gi_wp2
            go_roundw
            case rel => exact ⟨pre ++ [(k', x)], [], k', HI3, Lib.hid hJ3, Lib.hid ((show W3.heap[B]? = _ from hk3.2.1).trans HMV.out), Lib.hid (HCHV.out.block hk3.2.2.1 hk3.1), (World.cell?_of_block (a := ⟨Bt, 0, none⟩) hk3.2.2.2).trans hbV⟩
            case measure => rw [HMK.out, mTk_at (show CBlk 59 W3 B (mC lim [] false bc C cap k') from (show W3.heap[B]? = _ from hk3.2.1).trans HMV.out)]; have := HI3.out.hk; omega
          · dsimp only
            refine hK _ _ ?_
            clear hK K
            try simp only [Act.put, List.getElem_toArray, List.getElem_cons_succ, List.getElem_cons_zero, List.setIfInBounds_toArray, List.set_cons_zero, List.set_cons_succ]
            refine wpAnyIn_take (i := 10) (v := ?_) rfl rfl (by kernel_rfl) (by kernel_rfl) (by kernel_rfl) (fun _ _ _ h => h) ⟨Or.inl ⟨by rfl, ?_⟩, fun _ => rfl⟩ ?_
            rotate_left
            focus ((intro w; go_simp) <;> (with_reducible rfl))
            try simp only [Act.put, List.getElem_toArray, List.getElem_cons_succ, List.getElem_cons_zero, List.setIfInBounds_toArray, List.set_cons_zero, List.set_cons_succ]
            refine wpAnyIn_take (i := 11) (v := ?_) rfl rfl (by kernel_rfl) (by kernel_rfl) (by kernel_rfl) (fun _ _ _ h => h) ⟨Or.inl ⟨by rfl, ?_⟩, fun _ => rfl⟩ ?_
            rotate_left
            focus ((intro w; go_simp) <;> (with_reducible rfl))
            try simp only [Act.put, List.getElem_toArray, List.getElem_cons_succ, List.getElem_cons_zero, List.setIfInBounds_toArray, List.set_cons_zero, List.set_cons_succ]
            refine wpAnyIn_done (by kernel_rfl) ?_ _
            gi_wp2
            refine bodyPost_ret (results_none rfl _ _ _) rfl ?_
            refine ⟨⟨_, rfl⟩, .inr ⟨pre, (k', x), feedX lim k' [] (C.drop k'), ?_, hJx3, (show W3.heap[B]? = _ from hk3.2.1).trans HMV.out⟩⟩
            have := HI3.out.hx
            rw [← this]
            simp
      · go_simp
        refine hK _ _ ?_
        clear hK K
        try simp only [Act.put, List.getElem_toArray, List.getElem_cons_succ, List.getElem_cons_zero, List.setIfInBounds_toArray, List.set_cons_zero, List.set_cons_succ]
        refine wpAnyIn_ready (rs := [4]) (by kernel_rfl) (by simp) ?_
        refine AllReadyIn.cons rfl (fun K hK => ?_) AllReadyIn.nil
        go_simp
        refine hK _ _ ?_
        clear hK K
        try simp only [Act.put, List.getElem_toArray, List.getElem_cons_succ, List.getElem_cons_zero, List.setIfInBounds_toArray, List.set_cons_zero, List.set_cons_succ]
        refine wpAnyIn_take (i := 5) (v := ?_) rfl rfl (by kernel_rfl) (by kernel_rfl) (by kernel_rfl) (fun _ _ _ h => h) ⟨Or.inl ⟨by rfl, ?_⟩, fun _ => rfl⟩ ?_
        rotate_left
        focus ((intro w; go_simp) <;> (with_reducible rfl))
        try simp only [Act.put, List.getElem_toArray, List.getElem_cons_succ, List.getElem_cons_zero, List.setIfInBounds_toArray, List.set_cons_zero, List.set_cons_succ]
        refine wpAnyIn_take (i := 6) (v := ?_) rfl rfl (by kernel_rfl) (by kernel_rfl) (by kernel_rfl) (fun _ _ _ h => h) ⟨Or.inl ⟨by rfl, ?_⟩, fun _ => rfl⟩ ?_
        rotate_left
        focus ((intro w; go_simp) <;> (with_reducible rfl))
        try simp only [Act.put, List.getElem_toArray, List.getElem_cons_succ, List.getElem_cons_zero, List.setIfInBounds_toArray, List.set_cons_zero, List.set_cons_succ]
        refine wpAnyIn_ready (rs := [7]) (by kernel_rfl) (by simp) ?_
        refine AllReadyIn.cons rfl (fun K hK => ?_) AllReadyIn.nil
        go_simp
        refine hK _ _ ?_
        clear hK K
        try simp only [Act.put, List.getElem_toArray, List.getElem_cons_succ, List.getElem_cons_zero, List.setIfInBounds_toArray, List.set_cons_zero, List.set_cons_succ]
        refine wpAnyIn_ready (rs := [9]) (by kernel_rfl) (by simp) ?_
        refine AllReadyIn.cons rfl (fun K hK => ?_) AllReadyIn.nil
        go_simp
        refine HR.out.mono ?_
        rintro e W3 (⟨rfl, hJ3, hk3⟩ | ⟨rfl, hJx3, hk3⟩)
        · dsimp only
          refine hK _ _ ?_
          clear hK K
          try simp only [Act.put, List.getElem_toArray, List.getElem_cons_succ, List.getElem_cons_zero, List.setIfInBounds_toArray, List.set_cons_zero, List.set_cons_succ]
          refine wpAnyIn_take (i := 10) (v := ?_) rfl rfl (by kernel_rfl) (by kernel_rfl) (by kernel_rfl) (fun _ _ _ h => h) ⟨Or.inl ⟨by rfl, ?_⟩, fun _ => rfl⟩ ?_
          rotate_left
          focus ((intro w; go_simp) <;> (with_reducible rfl))
          try simp only [Act.put, List.getElem_toArray, List.getElem_cons_succ, List.getElem_cons_zero, List.setIfInBounds_toArray, List.set_cons_zero, List.set_cons_succ]
          refine wpAnyIn_take (i := 11) (v := ?_) rfl rfl (by kernel_rfl) (by kernel_rfl) (by kernel_rfl) (fun _ _ _ h => h) ⟨Or.inl ⟨by rfl, ?_⟩, fun _ => rfl⟩ ?_
          rotate_left
          focus ((intro w; go_simp) <;> (with_reducible rfl))
          try simp only [Act.put, List.getElem_toArray, List.getElem_cons_succ, List.getElem_cons_zero, List.setIfInBounds_toArray, List.set_cons_zero, List.set_cons_succ]
          refine wpAnyIn_done (by kernel_rfl) ?_ _
          gi_wp2
          go_roundw
          case rel => exact ⟨pre ++ [(k', x)], [], k', HI3, Lib.hid hJ3, Lib.hid ((show W3.heap[B]? = _ from hk3.2.1).trans HMV.out), Lib.hid (HCHV.out.block hk3.2.2.1 hk3.1), (World.cell?_of_block (a := ⟨Bt, 0, none⟩) hk3.2.2.2).trans hbV⟩
          case measure => rw [HMK.out, mTk_at (show CBlk 59 W3 B (mC lim [] false bc C cap k') from (show W3.heap[B]? = _ from hk3.2.1).trans HMV.out)]; have := HI3.out.hk; omega
        · dsimp only
          refine hK _ _ ?_
          clear hK K
          try simp only [Act.put, List.getElem_toArray, List.getElem_cons_succ, List.getElem_cons_zero, List.setIfInBounds_toArray, List.set_cons_zero, List.set_cons_succ]
          refine wpAnyIn_take (i := 10) (v := ?_) rfl rfl (by kernel_rfl) (by kernel_rfl) (by kernel_rfl) (fun _ _ _ h => h) ⟨Or.inl ⟨by rfl, ?_⟩, fun _ => rfl⟩ ?_
          rotate_left
          focus ((intro w; go_simp) <;> (with_reducible rfl))
          try simp only [Act.put, List.getElem_toArray, List.getElem_cons_succ, List.getElem_cons_zero, List.setIfInBounds_toArray, List.set_cons_zero, List.set_cons_succ]
          refine wpAnyIn_take (i := 11) (v := ?_) rfl rfl (by kernel_rfl) (by kernel_rfl) (by kernel_rfl) (fun _ _ _ h => h) ⟨Or.inl ⟨by rfl, ?_⟩, fun _ => rfl⟩ ?_
          rotate_left
          focus ((intro w; go_simp) <;> (with_reducible rfl))
          try simp only [Act.put, List.getElem_toArray, List.getElem_cons_succ, List.getElem_cons_zero, List.setIfInBounds_toArray, List.set_cons_zero, List.set_cons_succ]
          refine wpAnyIn_done (by kernel_rfl) ?_ _
          gi_wp2
          refine bodyPost_ret (results_none rfl _ _ _) rfl ?_
          refine ⟨⟨_, rfl⟩, .inr ⟨pre, (k', x), feedX lim k' [] (C.drop k'), ?_, hJx3, (show W3.heap[B]? = _ from hk3.2.1).trans HMV.out⟩⟩
          have := HI3.out.hx
          rw [← this]
          simp
theorem lines_any (B : Nat) (w : World) :
    Calls Try.prog 34 #[.pointer (some ⟨B, 0, none⟩)] w fun e w' => e = .returned (.func (.func 44) #[] #[.pointer (some ⟨w.heap.size, 0, none⟩)]) ∧ w' = w.alloc (.cells #[.pointer (some ⟨B, 0, none⟩)] 54) := by
  go_enter Try.func34, Try.ntmps34
  go_wp2_with fail
  go_ret
  exact ⟨rfl, rfl⟩
/-- The record of a loop over the machine's lines. -/
def lrec (fn : FuncId) (tmps : Array Value) (ps : Array Tmp) (assign body : Code) (N : Nat) (st : LoopState) (pe : Option Code) : Loop :=
  { state := st, pending := pe, fn, tmps := tmps, params := ps, assign, body, defers := N }
/-- The loop's own blocks lie as they lay. -/
def KB (N : Nat) (W W' : World) : Prop := W.heap.size ≤ W'.heap.size ∧ W'.heap[N]? = W.heap[N]? ∧ W'.heap[N + 1]? = W.heap[N + 1]?
theorem KA.trans {B bc Bt : Nat} {X Y Z : World} (h : KA B bc Bt X Y) (k : KA B bc Bt Y Z) : KA B bc Bt X Z := ⟨Nat.le_trans h.1 k.1, k.2.1.trans h.2.1, k.2.2.1.trans h.2.2.1, k.2.2.2.trans h.2.2.2⟩
theorem KA.grown {B bc Bt : Nat} {X Y : World} {row : Option Nat} (h : X.grownBy Y row) (h1 : B < X.heap.size) (h2 : bc < X.heap.size) (h3 : Bt < X.heap.size) (n1 : some B ≠ row) (n2 : some bc ≠ row) (n3 : some Bt ≠ row) : KA B bc Bt X Y :=
  ⟨h.size, h.block _ h1 n1, h.block _ h2 n2, h.block _ h3 n3⟩
/-- How a round's body may end. -/
def bodyM (N B bc Bt : Nat) (I Ix : List XL → World → Prop) (xs : List XL) (W : World) : Exit → Act → World → Prop
  | .normal, _, W' => KB N W W' ∧ KA B bc Bt W W' ∧ I xs W'
  | .ret, _, W' => KB N W W' ∧ KA B bc Bt W W' ∧ Ix xs W'
  | _, _, _ => False
theorem rangeM {n : Nat} (h2 : 2 ≤ n) {g : Operand} {ps : Array Tmp} {assign body : Code} {Q : Exit → Act → World → Prop} {a : Act} {w : World}
    (Bt B bc cap : Nat) (lim : Int) (S0 C : List UInt8) (hlim : 1 ≤ lim ∧ lim ≤ 1536) (hS0 : (S0.length : Int) ≤ lim) (hC : C.length < 100000) (hcap : C.length ≤ cap ∧ cap ≤ maxLen) (hne : bc ≠ B) (hne2 : Bt ≠ B)
    (hg : a.eval g = .func (.func 44) #[] #[.pointer (some ⟨Bt, 0, none⟩)]) (hps : ps.size = 2)
    (hbox : w.cell? ⟨Bt, 0, none⟩ = some (.pointer (some ⟨B, 0, none⟩))) (hm : CBlk 59 w B (mC lim S0 false bc C cap 0)) (hch : ChAt w bc C)
    (I Ix : List XL → World → Prop)
    (hIB : ∀ pre W W', I pre W → W.grownBy W' (some B) → I pre W') (hIL : ∀ pre W W', I pre W → W.grownBy W' (some (w.heap.size + 1)) → I pre W')
    (hXL : ∀ pre W W', Ix pre W → W.grownBy W' (some (w.heap.size + 1)) → Ix pre W') (h0 : I [] w)
    (hround : ∀ pre x W, I pre W → CBlk 59 W B (mC lim [] false bc C cap x.1) → pre.length < x.1 → x.1 ≤ C.length → w.heap.size + 2 ≤ W.heap.size →
      assign.wpIn (Fence.wide.inRound (w.heap.size + 1)) (n - 1 - 1) Try.prog
        (Exit.then (fun a₁ w₁ => W.grownBy w₁ none ∧ ∀ w₂, w₁.grownBy w₂ (some (w.heap.size + 1)) → body.wpIn (Fence.wide.inRound (w.heap.size + 1)) (n - 1 - 1) Try.prog (bodyM w.heap.size B bc Bt I Ix (pre ++ [x]) w₂) a₁ w₂) (fun _ _ _ => False))
        { tmps := (ps.zip (encX x)).foldl (fun t (p, v) => t.setIfInBounds p v) a.tmps, defers := [] } W)
    (hdone : ∀ W' k, I (feedX lim 0 S0 C) W' → CBlk 59 W' B (mC lim (feedL lim S0 C).1.txt (feedL lim S0 C).1.lg bc C cap k) → W'.heap[w.heap.size]? = some (.deferred (some [])) →
      Q .normal { a with defers := { target := .collected w.heap.size, args := #[] } :: a.defers } W')
    (hstop : ∀ W' pre x rest, pre ++ x :: rest = feedX lim 0 S0 C → Ix (pre ++ [x]) W' → CBlk 59 W' B (mC lim [] false bc C cap x.1) → W'.heap[w.heap.size]? = some (.deferred (some [])) →
      Code.ret.wpIn Fence.wide n Try.prog Q { a with defers := { target := .collected w.heap.size, args := #[] } :: a.defers } W') :
    (Code.rangeFunc g ps assign body).wpIn Fence.wide n Try.prog Q a w := by
  have hBlt := hm.lt
  have hclt := hch.1
  have hblt : Bt < w.heap.size := block_lt_of_cell hbox
  have eg : ∀ args w, (callFunc 44 args).run Try.prog w = .ok (.enter 44 args) w := enters_of Try.func44 (by kernel_rfl) rfl
  refine wpIn_rangeFunc ?_
  intro fn hfn
  obtain ⟨W1, hW1⟩ : ∃ W1, (w.alloc (.deferred (some []))).alloc (.loop (lrec fn a.tmps ps assign body w.heap.size .ready none)) = W1 := ⟨_, rfl⟩
  have hL1 : W1.heap[w.heap.size + 1]? = some (.loop (lrec fn a.tmps ps assign body w.heap.size .ready none)) := by
    rw [← hW1]
    have := World.alloc_heap_new (w.alloc (.deferred (some []))) (.loop (lrec fn a.tmps ps assign body w.heap.size .ready none))
    rwa [World.size_alloc] at this
  have hK1 : W1.heap[w.heap.size]? = some (.deferred (some [])) := by
    rw [← hW1]
    exact (Below.heap_alloc _ _ _ (by simp)).trans (World.alloc_heap_new w _)
  have hgW : w.grownBy W1 (some B) := by
    rw [← hW1]
    exact gr_alloc (gr_alloc (World.grownBy.refl _ _) _) _
  have hgN : w.grownBy W1 none := by
    rw [← hW1]
    exact gr_alloc (gr_alloc (World.grownBy.refl _ _) _) _
  have hka := KA.grown (B := B) (bc := bc) (Bt := Bt) hgN hBlt hclt hblt (by simp) (by simp) (by simp)
  refine ⟨w.heap.size + 1, [{ target := .collected w.heap.size, args := #[] }], W1, { target := .fn (.func 44) #[.pointer (some ⟨Bt, 0, none⟩)], args := #[.func (.yield (w.heap.size + 1)) #[] #[]] }, W1, 44,
    #[.func (.yield (w.heap.size + 1)) #[] #[], .pointer (some ⟨Bt, 0, none⟩)], W1, ?_, ?_, ?_, ?_, fun _ => by omega, ?_⟩
  · rw [← hW1]
    exact run_enterLoop_outer _ _ _ _ _
  · simp only [resolve, hg]
    simp [go_sem]
  · intro f' hf'
    trivial
  · simp [invoke, go_sem, eg]
  · refine (lines1_in (n - 1) (by omega) (w.heap.size + 1) Bt B bc cap lim S0 C hlim hS0 hC hcap hne hne2
      (fun pre W => I pre W ∧ W.heap[w.heap.size + 1]? = some (.loop (lrec fn a.tmps ps assign body w.heap.size .ready none)) ∧ W.heap[w.heap.size]? = some (.deferred (some [])))
      (fun pre W => Ix pre W ∧ W.heap[w.heap.size + 1]? = some (.loop (lrec fn a.tmps ps assign body w.heap.size .done (some .ret))) ∧ W.heap[w.heap.size]? = some (.deferred (some [])))
      W1 ?hJ ?hY ((World.cell?_of_block (a := ⟨Bt, 0, none⟩) hka.2.2.2).trans hbox) (hka.2.1.trans hm) (hch.block hka.2.2.1 hka.1) ⟨hIB _ _ _ h0 hgW, hL1, hK1⟩).mono ?post
    case hJ =>
      rintro pre W W' ⟨hi, hl, hk⟩ hgr
      have hlt : w.heap.size + 1 < W.heap.size := (Array.getElem?_eq_some_iff.1 hl).1
      exact ⟨hIB _ _ _ hi hgr, (hgr.block _ hlt (fun e => by injection e; omega)).trans hl, (hgr.block _ (by omega) (fun e => by injection e; omega)).trans hk⟩
    case hY =>
      rintro pre x W ⟨hi, hl, hk⟩ hmx hpl hxl
      have hlt : w.heap.size + 1 < W.heap.size := (Array.getElem?_eq_some_iff.1 hl).1
      have hy := run_yield (P := Try.prog) (args := encX x) hl (by show (encX x).size = ps.size; rw [hps]; rfl)
      refine ⟨fn, _, assign, body, hy, roundIn_of_wpIn hfn ?_⟩
      refine wpIn_mono (hround pre x W hi hmx hpl hxl hlt) ?_
      rintro e a₁ w₁ h
      cases e with
      | normal =>
        obtain ⟨hg1, hb⟩ := h
        have hl1 := (hg1.block _ hlt (by simp)).trans hl
        have hk1 := (hg1.block _ (show w.heap.size < W.heap.size by omega) (by simp)).trans hk
        have hlt1 : w.heap.size + 1 < w₁.heap.size := Nat.lt_of_lt_of_le hlt hg1.size
        have hka1 := KA.grown (B := B) (bc := bc) (Bt := Bt) hg1 (by omega) (by omega) (by omega) (by simp) (by simp) (by simp)
        refine ⟨_, run_beginRound hl1 rfl, ?_⟩
        have hp := grownBy_putObj' w₁ (w.heap.size + 1) (.loop { lrec fn a.tmps ps assign body w.heap.size .ready none with state := .busy })
        have hka2 := hka1.trans (KA.grown (B := B) (bc := bc) (Bt := Bt) hp (by omega) (by omega) (by omega) (fun e => by injection e; omega) (fun e => by injection e; omega) (fun e => by injection e; omega))
        refine wpIn_mono (hb _ hp) ?_
        rintro e a3 W3 h3
        have key : ∀ (pe : Option Code), KB w.heap.size (w₁.putObj (w.heap.size + 1) (.loop { lrec fn a.tmps ps assign body w.heap.size .ready none with state := .busy })) W3 → KA B bc Bt (w₁.putObj (w.heap.size + 1) (.loop { lrec fn a.tmps ps assign body w.heap.size .ready none with state := .busy })) W3 →
            (Instr.endRound (w.heap.size + 1) pe).run Try.prog W3 = .ok (.bool pe.isNone) (W3.putObj (w.heap.size + 1) (.loop (lrec fn a.tmps ps assign body w.heap.size (if pe.isNone then .ready else .done) pe))) ∧
            (W3.putObj (w.heap.size + 1) (.loop (lrec fn a.tmps ps assign body w.heap.size (if pe.isNone then .ready else .done) pe))).heap[w.heap.size + 1]? = some (.loop (lrec fn a.tmps ps assign body w.heap.size (if pe.isNone then .ready else .done) pe)) ∧
            (W3.putObj (w.heap.size + 1) (.loop (lrec fn a.tmps ps assign body w.heap.size (if pe.isNone then .ready else .done) pe))).heap[w.heap.size]? = some (.deferred (some [])) ∧
            KA B bc Bt W (W3.putObj (w.heap.size + 1) (.loop (lrec fn a.tmps ps assign body w.heap.size (if pe.isNone then .ready else .done) pe))) := by
          rintro pe ⟨ks, kd, kl⟩ ka
          have hl3 := kl.trans (World.putObj_heap_same hlt1)
          have hlt3 : w.heap.size + 1 < W3.heap.size := (Array.getElem?_eq_some_iff.1 hl3).1
          have hd3 := kd.trans ((World.putObj_heap_other (by omega)).trans hk1)
          refine ⟨run_endRound (P := Try.prog) pe hl3, World.putObj_heap_same hlt3, (World.putObj_heap_other (by omega)).trans hd3, ?_⟩
          exact (hka2.trans ka).trans (KA.grown (B := B) (bc := bc) (Bt := Bt) (grownBy_putObj' W3 (w.heap.size + 1) _) (by omega) (by omega) (by omega) (fun e => by injection e; omega) (fun e => by injection e; omega) (fun e => by injection e; omega))
        cases e with
        | normal =>
          obtain ⟨hkb, hkk, hi3⟩ := h3
          obtain ⟨r1, r2, r3, r4⟩ := key none hkb hkk
          exact ⟨_, _, r1, .inl ⟨rfl, ⟨hIL _ _ _ hi3 (grownBy_putObj' _ _ _), r2, r3⟩, r4⟩⟩
        | ret =>
          obtain ⟨hkb, hkk, hi3⟩ := h3
          obtain ⟨r1, r2, r3, r4⟩ := key (some .ret) hkb hkk
          exact ⟨_, _, r1, .inr ⟨rfl, ⟨hXL _ _ _ hi3 (grownBy_putObj' _ _ _), r2, r3⟩, r4⟩⟩
        | exit id => exact h3.elim
        | goto t => exact h3.elim
        | panic ch => exact h3.elim
        | outgrown => exact h3.elim
      | exit id => exact h.elim
      | goto t => exact h.elim
      | ret => exact h.elim
      | panic ch => exact h.elim
      | outgrown => exact h.elim
    case post =>
      rintro e W2 ⟨⟨v, rfl⟩, (⟨k, ⟨hi, hl, hk⟩, hmf⟩ | ⟨pre, x, rest, hx, ⟨hix, hl, hk⟩, hmx⟩)⟩
      · have hp := grownBy_putObj' W2 (w.heap.size + 1) (.loop { lrec fn a.tmps ps assign body w.heap.size .ready none with state := .exhausted })
        exact ⟨none, _, run_endLoop (P := Try.prog) hl (by simp [lrec]), hdone _ k (hIL _ _ _ hi hp) (hmf.kept hp (fun e => by injection e; omega)) ((World.putObj_heap_other (by omega)).trans hk)⟩
      · have hp := grownBy_putObj' W2 (w.heap.size + 1) (.loop { lrec fn a.tmps ps assign body w.heap.size .done (some .ret) with state := .exhausted })
        exact ⟨some .ret, _, run_endLoop (P := Try.prog) hl (by simp [lrec]), hstop _ pre x rest hx (hXL _ _ _ hix hp) (hmx.kept hp (fun e => by injection e; omega)) ((World.putObj_heap_other (by omega)).trans hk)⟩
end Go.Proofs.Ytfagjhadfonhdaa
