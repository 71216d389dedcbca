/-
  The parser of package pattern: a sequence, given what a piece does.
  The parser of package pattern: a choice, given what a piece does.
  The parser of package pattern: a piece that is an atom, and a group.
-/
import Derived.Test.YtdnbnigebejgjaaGreatDoorHJP2
namespace Go.Proofs.YtdnbnigebejgjaaGreatDoor
open Go.RowKit
theorem infoI : (Tryz.prog.info? 3).map (fun i => (i.zero, i.size, i.bytes)) = some (some (.int .i64 0), 1, 8) := by kernel_rfl
/-- A number as a word of memory. -/
def natW (n : Nat) : Value := .int .i64 (n : Int)
/-- Block B holds a parser in the state S; its nodes lie in a row of its own, from N on. -/
structure PB (w : World) (B N : Nat) (t : List UInt8) (S : PS) (v x5 x6 : Value) : Prop where
  rd : RD w B t S.r v x5 x6 (.int .i64 (S.g : Int))
  row : w.ownsRow N 54 9 v S.L.length (ndsC S.L)
  st : ST w
  lo : 0 < N
  hi : N ≤ B
theorem PB.lt {w : World} {B N : Nat} {t : List UInt8} {S : PS} {v x5 x6 : Value} (h : PB w B N t S v x5 x6) : B < w.heap.size := h.rd.lt
theorem PB.own {w : World} {B N : Nat} {t : List UInt8} {S : PS} {v x5 x6 : Value} (h : PB w B N t S v x5 x6) : ∀ r, v.ownBlock = some r → N ≤ r := fun r hr => (h.row.lt r hr).1
theorem PB.ne {w : World} {B N : Nat} {t : List UInt8} {S : PS} {v x5 x6 : Value} (h : PB w B N t S v x5 x6) : some B ≠ v.ownBlock := h.rd.not_row (by decide) h.row
/-- The reader's step. -/
theorem PB.step {w w' : World} {B N : Nat} {t : List UInt8} {S : PS} {v x5 x6 : Value} {r : RS} (h : PB w B N t S v x5 x6) (hr : RD w' B t r v x5 x6 (.int .i64 (S.g : Int))) (hg : w.grownBy w' (some B)) : PB w' B N t { S with r := r } v x5 x6 :=
  ⟨hr, h.row.kept hg (.inr (fun e => h.ne e.symm)), h.st.keep hg (by have := h.lo; have := h.hi; intro e; injection e; omega), h.lo, h.hi⟩
/-- A row of one's own grows: the parser stays. -/
theorem PB.keep {w w' : World} {B N : Nat} {t : List UInt8} {S : PS} {v x5 x6 : Value} {row : Option Nat} (h : PB w B N t S v x5 x6) (hg : w.grownBy w' row) (h1 : some B ≠ row) (h2 : row = none ∨ row ≠ v.ownBlock) (h3 : ∀ r, row = some r → N ≤ r) : PB w' B N t S v x5 x6 := by
  refine ⟨h.rd.kept hg h1, h.row.kept hg ?_, h.st.keep hg (fun e => ?_), h.lo, h.hi⟩
  · rcases h2 with h2 | h2
    · cases hv : v.ownBlock with
      | none => exact .inl rfl
      | some k => rw [h2]; exact .inr (by simp)
    · exact .inr (fun e => h2 e.symm)
  · have := h3 _ e.symm
    have := h.lo
    omega
theorem PF.grown {B : Nat} {v v' : Value} {a b c : World} {row : Option Nat} (h : PF B v v' a b) (hg : b.grownBy c row) (hr : ∀ r, row = some r → a.heap.size ≤ r) : PF B v v' a c :=
  ⟨hg.os.trans h.os, hg.tape.trans h.tape, hg.output.trans h.output, Nat.le_trans h.size hg.size, fun k hk h1 h2 => (hg.block k (Nat.lt_of_lt_of_le hk h.size) (fun e => by have := hr k e.symm; omega)).trans (h.block k hk h1 h2), h.own⟩
theorem PF.st {B : Nat} {v v' : Value} {w w' : World} (h : PF B v v' w w') (hS : ST w) (hB : 0 < B) (hv : ∀ r, v.ownBlock = some r → 0 < r) : ST w' := by
  have e := h.block 0 hS.lt (by omega) (fun e => by have := hv _ e; omega)
  intro i hi
  have k : w'.cell? ⟨0, i, none⟩ = w.cell? ⟨0, i, none⟩ := by simp [World.cell?, e]
  exact k.trans (hS i hi)
theorem KI_of_own {w : World} {B N base : Nat} {t : List UInt8} {S : PS} {v x5 x6 kv : Value} {ks : List Nat} (h : PB w B N t S v x5 x6) (hk : w.ownsRow base 3 1 kv ks.length (ks.map natW)) {g cap : Nat} (hv : v = .slice (some ⟨g, 0, none⟩) S.L.length cap) : ∃ kp kc, kv = .slice kp ks.length kc ∧ KI w B g kp ks := by
  obtain ⟨p, c, rfl, hc⟩ := cells_of_own hk (by simp)
  refine ⟨p, c, rfl, fun j hj => ?_⟩
  obtain ⟨b, off, rfl, hb, e⟩ := hc j (by simpa using hj)
  refine ⟨b, off, rfl, hb, fun e2 => h.rd.not_row (by decide) hk (by rw [← e2]; rfl), fun e2 => ?_, ?_⟩
  · subst hv
    rcases own_ne (by decide) h.row hk with h3 | h3
    · cases h3
    · exact h3 (by rw [e2]; rfl)
  · rw [e]
    simp [hj, natW]
/-- What a piece does, to f bytes. -/
def PieceOK (t : List UInt8) (f : Nat) (pc : PS → Nat × PS) (B N : Nat) (x5 x6 : Value) : Prop :=
  ∀ (S : PS) (v : Value) (W : World), PB W B N t S v x5 x6 → 0 < vl t S.r → vl t S.r ≤ f → pot t S ≤ 100000 → gp t S ≤ 100000 →
    Calls Tryz.prog 92 #[.pointer (some ⟨B, 0, none⟩)] W fun e w' => e = .returned (.int .i64 ((pc S).1 : Int)) ∧ ∃ v', PB w' B N t (pc S).2 v' x5 x6 ∧ PF B v v' W w'
theorem PB.add {w w' : World} {B N : Nat} {t : List UInt8} {S : PS} {v v' x5 x6 : Value} {n : ND} (h : PB w B N t S v x5 x6) (hr : RD w' B t S.r v' x5 x6 (.int .i64 (S.g : Int))) (hw : w'.ownsRow N 54 9 v' (S.L.length + 1) (ndsC (S.L ++ [{ n with first := -1, next := -1 }]))) (hp : PF B v v' w w') : PB w' B N t (addP S n) v' x5 x6 :=
  ⟨hr, by rw [show (addP S n).L = S.L ++ [{ n with first := -1, next := -1 }] from rfl, List.length_append]; exact hw, hp.st h.st (by have := h.lo; have := h.hi; omega) (fun r hr => by have := h.own r hr; have := h.lo; omega), h.lo, h.hi⟩
set_option maxHeartbeats 4000000 in
set_option maxRecDepth 100000 in
theorem seq_any (t : List UInt8) (f : Nat) (pc : PS → Nat × PS) (B N : Nat) (x5 x6 : Value) (hG : PG t f pc) (hP : PieceOK t f pc B N x5 x6) (S : PS) (v : Value) (W : World) (h : PB W B N t S v x5 x6) (hf : vl t S.r ≤ f) (hpot : pot t S ≤ 99999) (hgp : gp t S ≤ 100000) :
    Calls Tryz.prog 73 #[.pointer (some ⟨B, 0, none⟩)] W fun e w' => e = .returned (.int .i64 ((seqP t pc S).1 : Int)) ∧ ∃ v', PB w' B N t (seqP t pc S).2 v' x5 x6 ∧ PF B v v' W w' := by
  obtain ⟨i0, hi, hz0, hz1, hz2⟩ := info_parts infoI
  have hNB := h.hi
  have hlt := h.lt
  obtain ⟨R, hR⟩ : ∃ R, seqLoop t pc t.length (addP S (bare 2 .empty 0)) [] = R := ⟨_, rfl⟩
  have hRes : Hid (seqP t pc S = (S.L.length, adoptP R.2 S.L.length R.1)) := Lib.hid (by unfold seqP; rw [hR])
  have hkids := seqLoop_kids hG t.length (addP S (bare 2 .empty 0)) [] hf (fun k hk => by cases hk)
  have hlen := (seqLoop_le hG t.length (addP S (bare 2 .empty 0)) [] hf).l0
  rw [hR] at hkids hlen
  have hlen2 : S.L.length < R.2.L.length := by
    have : (addP S (bare 2 .empty 0)).L.length = S.L.length + 1 := by simp [addP]
    omega
  have HR := Lib.hid hR
  have HKI := Lib.hid hkids
  have HLN := Lib.hid hlen2
  have hn0 : vl t (addP S (bare 2 .empty 0)).r ≤ t.length := Nat.le_trans (restR_len t _) (by omega)
  have hp0 : pot t (addP S (bare 2 .empty 0)) ≤ 100000 := by have := (JLE.add t S (bare 2 .empty 0)).p0; omega
  have hg0 : gp t (addP S (bare 2 .empty 0)) ≤ 100000 := by have := (JLE.add t S (bare 2 .empty 0)).g0; omega
  have hv0 : vl t S.r ≤ 100000 := by unfold gp at hgp; omega
  have hL0 : S.L.length < 1000000 := by unfold pot at hpot; omega
  clear hR hkids hlen hlen2
  go_enter Tryz.func73, Tryz.ntmps73
  go_wp2_with fail
  refine (add_any t S.r v x5 x6 _ (⟨2, 0, .empty, 0, 0, 0⟩ : ND) S.L hL0 N W B (by omega) h.rd h.row).mono ?_
  rintro e w1 ⟨rfl, v1, hr1, hw1, hp1⟩
  have h1 : PB w1 B N t (addP S (bare 2 .empty 0)) v1 x5 x6 := h.add (n := bare 2 .empty 0) hr1 hw1 hp1
  clear hr1 hw1
  go_wp2_with fail
  have hzW : W.heap.size ≤ w1.heap.size := hp1.size
  go_loopw [4] (fun kv wr => ∃ (n : Nat) (S' : PS) (ks : List Nat) (v' : Value), vl t S'.r ≤ n ∧ Hid (seqLoop t pc n S' ks = R) ∧ Hid (vl t S'.r ≤ f) ∧ Hid (pot t S' ≤ 100000) ∧ Hid (gp t S' ≤ 100000) ∧ Hid (ks.length + vl t S'.r ≤ 100000) ∧ Hid (PB wr B N t S' v' x5 x6) ∧ Hid (wr.ownsRow W.heap.size 3 1 kv ks.length (ks.map natW)) ∧ Hid (PF B v v' W wr)) (fun _ wr => visM t wr B)
  case atStart =>
    exact ⟨t.length, addP S (bare 2 .empty 0), [], v1, hn0, HR, Lib.hid hf, Lib.hid hp0, Lib.hid hg0, Lib.hid (by show 0 + vl t S.r ≤ 100000; omega), Lib.hid h1, Lib.hid (World.ownsRow_nil _ _ _ _), Lib.hid hp1⟩
  case round =>
    obtain ⟨n, S', ks, v', hn, hC, hF, hPo, hGp, hKl, hD, hO, hG2⟩ := hrel
    rename World => wr
    have hm := visM_of hD.out.rd
    have hSE := sees_any t S'.r v' x5 x6 (.int .i64 (S'.g : Int)) behindL wr B hD.out.rd
    obtain ⟨q, hq⟩ : ∃ q, seesB t S'.r behindL = q := ⟨_, rfl⟩
    rw [hq] at hSE
    have HSE := Lib.hid hSE
    clear hSE h1 hp1 hn0 hp0 hg0 hv0
    obtain ⟨kp, kc, rfl⟩ := own_slice hO.out
    cases q with
    | true =>
      have hpos := vl_sees hq
      have hless := hG.lt S' hpos hF.out
      have hle := hG.le S' hpos hF.out
      obtain ⟨n', rfl⟩ : ∃ n', n = n' + 1 := ⟨n - 1, by omega⟩
      have hC2 : seqLoop t pc n' (pc S').2 (ks ++ [(pc S').1]) = R := by
        have := hC.out
        unfold seqLoop at this
        rw [if_pos hq] at this
        exact this
      have HC2 := Lib.hid hC2
      have HPC := Lib.hid fun v W hb => hP S' v W hb hpos hF.out (by have := hPo.out; omega) hGp.out
      obtain ⟨⟨x, S2⟩, hx⟩ : ∃ q, pc S' = q := ⟨_, rfl⟩
      rw [hx] at HPC HC2 hless hle
      dsimp only at HC2 hless hle
      have H1 : Hid (vl t S2.r ≤ n') := Lib.hid (by omega)
      have H2 : Hid (vl t S2.r ≤ f) := Lib.hid (by have := hF.out; omega)
      have H3 : Hid (pot t S2 ≤ 100000) := Lib.hid (by have := hle.p0; have := hPo.out; omega)
      have H4 : Hid (gp t S2 ≤ 100000) := Lib.hid (by have := hle.g0; have := hGp.out; omega)
      have H5 : Hid ((ks ++ [x]).length + vl t S2.r ≤ 100000) := Lib.hid (by have := hKl.out; rw [List.length_append, List.length_singleton]; omega)
      have H6 : Hid (vl t S2.r < vl t S'.r) := Lib.hid hless
      have HM := Lib.hid hm
      have hkl : ks.length < 100000 := by have := hKl.out; omega
      clear hC2 hC hless hle hpos hq hn hm hx
      go_wp2_with fail
      refine HSE.out.mono ?_
      rintro e w3 ⟨rfl, hb3⟩
      have d3 := hD.out.step (hD.out.rd.below hb3 hD.out.lt) (jgrown B hb3)
      have o3 := own_below hO.out hb3
      have p3 := hG2.out.trans (PF.of v' (jgrown B hb3))
      go_wp2_with fail
      refine (HPC.out _ _ d3).mono ?_
      rintro e w4 ⟨rfl, v4, d4, p4⟩
      have hkB : ∀ {u : Value}, (Value.slice kp ks.length kc) = u → u.ownBlock ≠ some B := fun e e2 => d3.rd.not_row (by decide) o3 (by rw [e]; exact e2.symm)
      have o4 := p4.row o3 (hkB rfl) (own_ne (by decide) d3.row o3)
      have p5 := p3.trans p4
      have hsz := p5.size
      go_wp2_with (at_builtin; refine wpList_append_own _ rfl _ _ 45 rfl W.heap.size 3 i0 (.int .i64 0) 1 8 Tryz.underlying45 hi hz0 hz1 hz2 rfl (by decide) _ _ _ rfl (o4.alloc _) ⟨w4.heap.size, 0, none⟩ 1 1 [.int .i64 (x : Int)] rfl rfl (cell_one_new _ _ _) (by simp [Value.oneCell']) (by unfold maxLen; omega) (by omega) (by simp; omega) ?_; intro kv2 w5 o5 g5 _)
      have d4' := d4.keep (World.grownBy_alloc w4 (.cells #[.int .i64 (x : Int)] 3) none) (by simp) (.inl rfl) (by simp)
      have o4' := o4.alloc (.cells #[.int .i64 (x : Int)] 3)
      have hlow : ∀ r, (Value.slice kp ks.length kc).ownBlock = some r → W.heap.size ≤ r := fun r hr => (o4.lt r hr).1
      have d5 := d4'.keep g5 (d4'.rd.not_row (by decide) o4') (own_ne (by decide) d4'.row o4') (fun r hr => by have := hlow r hr; omega)
      have p6 := (p5.grown (World.grownBy_alloc w4 (.cells #[.int .i64 (x : Int)] 3) none) (by simp)).grown g5 hlow
      have o6 : w5.ownsRow W.heap.size 3 1 kv2 (ks ++ [x]).length ((ks ++ [x]).map natW) := by
        rw [List.length_append, List.map_append]
        exact o5
      have hv5 := visM_of d5.rd
      go_wp2_with fail
      go_roundw
      case rel => exact ⟨n', S2, ks ++ [x], v4, H1.out, HC2, H2, H3, H4, H5, Lib.hid d5, Lib.hid o6, Lib.hid p6⟩
      case measure => rw [hv5, HM.out]; exact H6.out
    | false =>
      have hC2 : R = (ks, S') := by
        rw [← hC.out]
        cases n with
        | zero => rfl
        | succ n => exact if_neg (by rw [hq]; simp)
      subst hC2
      obtain ⟨g, cap, rfl, hg1, hg2⟩ := hD.out.row.form (Nat.lt_of_le_of_lt (Nat.zero_le _) HLN.out)
      have hkl : ks.length < 1000000 := by have := hKl.out; omega
      clear hC hm hn hq
      go_wp2_with fail
      refine HSE.out.mono ?_
      rintro e w3 ⟨rfl, hb3⟩
      have d3 := hD.out.step (hD.out.rd.below hb3 hD.out.lt) (jgrown B hb3)
      have o3 := own_below hO.out hb3
      have p3 := hG2.out.trans (PF.of (.slice (some ⟨g, 0, none⟩) S'.L.length cap) (jgrown B hb3))
      obtain ⟨kp', kc', hkv, hK⟩ := KI_of_own d3 o3 rfl
      injection hkv with hk1 hk2 hk3
      subst hk1 hk3
      go_wp2_with fail
      refine (adopt_any t S'.r g cap x5 x6 _ S'.L N w3 B S.L.length HLN.out ks HKI.out hkl kp kc d3.rd d3.row hK).mono ?_
      rintro e w4 ⟨rfl, r4, o4, g4⟩
      go_wp2_with fail
      go_ret
      rw [hRes.out]
      refine ⟨rfl, .slice (some ⟨g, 0, none⟩) S'.L.length cap, ⟨r4, ?_, ?_, h.lo, h.hi⟩, ?_⟩
      · show w4.ownsRow N _ 9 _ (adoptL S'.L (S.L.length, false) ks).length (ndsC (adoptL S'.L (S.L.length, false) ks))
        rw [adoptL_length]
        exact o4
      · exact d3.st.keep g4 (fun e => by injection e with e; have := h.lo; omega)
      · exact p3.trans ⟨g4.os, g4.tape, g4.output, g4.size, fun k hk h1 h2 => g4.block k hk (fun e => h2 (by rw [e]; rfl)), .inl rfl⟩
end Go.Proofs.YtdnbnigebejgjaaGreatDoor
namespace Go.Proofs.YtdnbnigebejgjaaGreatDoor
open Go.RowKit
set_option maxHeartbeats 4000000 in
set_option maxRecDepth 100000 in
theorem cho_any (t : List UInt8) (f : Nat) (pc : PS → Nat × PS) (B N : Nat) (x5 x6 : Value) (hG : PG t f pc) (hP : PieceOK t f pc B N x5 x6) (S : PS) (v : Value) (W : World) (h : PB W B N t S v x5 x6) (hf : vl t S.r ≤ f) (hpot : pot t S ≤ 99998) (hgp : gp t S ≤ 100000) :
    Calls Tryz.prog 52 #[.pointer (some ⟨B, 0, none⟩)] W fun e w' => e = .returned (.int .i64 ((choP t pc S).1 : Int)) ∧ ∃ v', PB w' B N t (choP t pc S).2 v' x5 x6 ∧ PF B v v' W w' := by
  obtain ⟨i0, hi, hz0, hz1, hz2⟩ := info_parts infoI
  have hNB := h.hi
  have hlt := h.lt
  have hle0 := (JLE.add t S (bare 3 .empty 0)).trans (seqP_le hG (addP S (bare 3 .empty 0)) hf)
  have hk0 := seqP_kid hG (addP S (bare 3 .empty 0)) hf
  have HSQ := Lib.hid fun v W hb => seq_any t f pc B N x5 x6 hG hP (addP S (bare 3 .empty 0)) v W hb hf (by have := (JLE.add t S (bare 3 .empty 0)).p0; omega) (by have := (JLE.add t S (bare 3 .empty 0)).g0; omega)
  obtain ⟨R, hR⟩ : ∃ R, choLoop t pc t.length (seqP t pc (addP S (bare 3 .empty 0))).2 [(seqP t pc (addP S (bare 3 .empty 0))).1] = R := ⟨_, rfl⟩
  have hRes : Hid (choP t pc S = (S.L.length, adoptP R.2 S.L.length R.1)) := Lib.hid (by rw [← hR]; rfl)
  obtain ⟨⟨y, S1⟩, hy⟩ : ∃ q, seqP t pc (addP S (bare 3 .empty 0)) = q := ⟨_, rfl⟩
  rw [hy] at hle0 hk0 HSQ hR
  dsimp only at hle0 hk0 hR
  have hf1 : vl t S1.r ≤ f := Nat.le_trans hle0.v0 hf
  have hkids := choLoop_kids hG t.length S1 [y] hf1 (fun k hk => by rw [List.mem_singleton.1 hk]; exact hk0)
  have hlen := (choLoop_le hG t.length S1 [y] hf1).l0
  rw [hR] at hkids hlen
  have hlen2 : S.L.length < R.2.L.length := by
    have h1 := (seqP_le hG (addP S (bare 3 .empty 0)) hf).l0
    rw [hy] at h1
    have : (addP S (bare 3 .empty 0)).L.length = S.L.length + 1 := by simp [addP]
    dsimp only at h1
    omega
  have HR := Lib.hid hR
  have HKI := Lib.hid hkids
  have HLN := Lib.hid hlen2
  have hn0 : vl t S1.r ≤ t.length := Nat.le_trans (restR_len t _) (by omega)
  have hp0 : pot t S1 ≤ 100000 := by have := hle0.p0; omega
  have hg0 : gp t S1 ≤ 100000 := by have := hle0.g0; omega
  have hv0 : vl t S1.r ≤ 100000 := by unfold gp at hg0; omega
  have hL0 : S.L.length < 1000000 := by unfold pot at hpot; omega
  clear hR hkids hlen hlen2 hy hle0 hk0
  go_enter Tryz.func52, Tryz.ntmps52
  go_wp2_with fail
  refine (add_any t S.r v x5 x6 _ (⟨3, 0, .empty, 0, 0, 0⟩ : ND) S.L hL0 N W B (by omega) h.rd h.row).mono ?_
  rintro e w1 ⟨rfl, v1, hr1, hw1, hp1⟩
  have h1 : PB w1 B N t (addP S (bare 3 .empty 0)) v1 x5 x6 := h.add (n := bare 3 .empty 0) hr1 hw1 hp1
  clear hr1 hw1
  go_wp2_with fail
  refine (HSQ.out _ _ h1).mono ?_
  rintro e w2 ⟨rfl, v2, h2, hp2⟩
  have hp3 := hp1.trans hp2
  have hzW : W.heap.size ≤ w2.heap.size := hp3.size
  clear h1 hp1 hp2
  have hrow0 : (w2.alloc (.cells #[.int .i64 (y : Int)] 3)).ownsRow W.heap.size 3 1 (.slice (some ⟨w2.heap.size, 0, none⟩) 1 1) [y].length ([y].map natW) := World.ownsRow_lit w2 #[.int .i64 (y : Int)] 1 hzW (by unfold maxLen; omega) rfl
  have h2' := h2.keep (World.grownBy_alloc w2 (.cells #[.int .i64 (y : Int)] 3) none) (by simp) (.inl rfl) (by simp)
  have hp4 := hp3.grown (World.grownBy_alloc w2 (.cells #[.int .i64 (y : Int)] 3) none) (by simp)
  go_wp2_with fail
  go_loopw [4] (fun kv wr => ∃ (n : Nat) (S' : PS) (ks : List Nat) (v' : Value), vl t S'.r ≤ n ∧ Hid (choLoop t pc n S' ks = R) ∧ Hid (vl t S'.r ≤ f) ∧ Hid (pot t S' ≤ 100000) ∧ Hid (gp t S' ≤ 100000) ∧ Hid (ks.length + vl t S'.r ≤ 100001) ∧ Hid (PB wr B N t S' v' x5 x6) ∧ Hid (wr.ownsRow W.heap.size 3 1 kv ks.length (ks.map natW)) ∧ Hid (PF B v v' W wr)) (fun _ wr => visM t wr B)
  case atStart =>
    exact ⟨t.length, S1, [y], v2, hn0, HR, Lib.hid hf1, Lib.hid hp0, Lib.hid hg0, Lib.hid (by show 1 + vl t S1.r ≤ 100001; omega), Lib.hid h2', Lib.hid hrow0, Lib.hid hp4⟩
  case round =>
    obtain ⟨n, S', ks, v', hn, hC, hF, hPo, hGp, hKl, hD, hO, hG2⟩ := hrel
    rename World => wr
    have hm := visM_of hD.out.rd
    have hSE := take_any t S'.r v' x5 x6 (.int .i64 (S'.g : Int)) [124] (by simp) wr B hD.out.rd
    obtain ⟨q, hq⟩ : ∃ q, takeB t S'.r [124] = q := ⟨_, rfl⟩
    rw [hq] at hSE
    have HSE := Lib.hid hSE
    clear hSE h2 h2' hrow0 hp3 hp4 hn0 hp0 hg0 hv0
    obtain ⟨kp, kc, rfl⟩ := own_slice hO.out
    cases q with
    | true =>
      have htk := vl_take hq
      simp only [List.length_cons, List.length_nil] at htk
      have hle := choStep hG hF.out hq
      have hf3 : vl t ({ S' with r := takeR t S'.r [124] } : PS).r ≤ f := Nat.le_trans (vl_take_le _ _ _) hF.out
      have hless : vl t (seqP t pc { S' with r := takeR t S'.r [124] }).2.r < vl t S'.r := by
        have h1 := (seqP_le hG { S' with r := takeR t S'.r [124] } hf3).v0
        dsimp only at h1
        omega
      obtain ⟨n', rfl⟩ : ∃ n', n = n' + 1 := ⟨n - 1, by omega⟩
      have hC2 : choLoop t pc n' (seqP t pc { S' with r := takeR t S'.r [124] }).2 (ks ++ [(seqP t pc { S' with r := takeR t S'.r [124] }).1]) = R := by
        have := hC.out
        unfold choLoop at this
        rw [if_pos hq] at this
        exact this
      have HC2 := Lib.hid hC2
      have HPC := Lib.hid fun v W hb => seq_any t f pc B N x5 x6 hG hP { S' with r := takeR t S'.r [124] } v W hb hf3 (by have := hPo.out; unfold pot at this ⊢; dsimp only; omega) (by have := hGp.out; unfold gp at this ⊢; dsimp only; omega)
      obtain ⟨⟨x, S2⟩, hx⟩ : ∃ q, seqP t pc { S' with r := takeR t S'.r [124] } = q := ⟨_, rfl⟩
      rw [hx] at HPC HC2 hless hle
      dsimp only at HC2 hless hle
      have H1 : Hid (vl t S2.r ≤ n') := Lib.hid (by omega)
      have H2 : Hid (vl t S2.r ≤ f) := Lib.hid (by have := hF.out; omega)
      have H3 : Hid (pot t S2 ≤ 100000) := Lib.hid (by have := hle.p0; have := hPo.out; omega)
      have H4 : Hid (gp t S2 ≤ 100000) := Lib.hid (by have := hle.g0; have := hGp.out; omega)
      have H5 : Hid ((ks ++ [x]).length + vl t S2.r ≤ 100001) := Lib.hid (by have := hKl.out; rw [List.length_append, List.length_singleton]; omega)
      have H6 : Hid (vl t S2.r < vl t S'.r) := Lib.hid hless
      have HM := Lib.hid hm
      have hkl : ks.length < 100001 := by have := hKl.out; omega
      clear hC2 hC hless hle hq hn hm hx htk
      go_wp2_with fail
      refine HSE.out.mono ?_
      rintro e w3 ⟨rfl, r3, g3⟩
      have d3 := hD.out.step r3 g3
      have hkB0 : (Value.slice kp ks.length kc).ownBlock ≠ some B := fun e2 => hD.out.rd.not_row (by decide) hO.out e2.symm
      have o3 := hO.out.kept g3 (.inr hkB0)
      have p3 := hG2.out.trans (PF.of v' g3)
      go_wp2_with fail
      refine (HPC.out _ _ d3).mono ?_
      rintro e w4 ⟨rfl, v4, d4, p4⟩
      have o4 := p4.row o3 hkB0 (own_ne (by decide) d3.row o3)
      have p5 := p3.trans p4
      have hsz := p5.size
      go_wp2_with (at_builtin; refine wpList_append_own _ rfl _ _ 45 rfl W.heap.size 3 i0 (.int .i64 0) 1 8 Tryz.underlying45 hi hz0 hz1 hz2 rfl (by decide) _ _ _ rfl (o4.alloc _) ⟨w4.heap.size, 0, none⟩ 1 1 [.int .i64 (x : Int)] rfl rfl (cell_one_new _ _ _) (by simp [Value.oneCell']) (by unfold maxLen; omega) (by omega) (by simp; omega) ?_; intro kv2 w5 o5 g5 _)
      have d4' := d4.keep (World.grownBy_alloc w4 (.cells #[.int .i64 (x : Int)] 3) none) (by simp) (.inl rfl) (by simp)
      have o4' := o4.alloc (.cells #[.int .i64 (x : Int)] 3)
      have hlow : ∀ r, (Value.slice kp ks.length kc).ownBlock = some r → W.heap.size ≤ r := fun r hr => (o4.lt r hr).1
      have d5 := d4'.keep g5 (d4'.rd.not_row (by decide) o4') (own_ne (by decide) d4'.row o4') (fun r hr => by have := hlow r hr; omega)
      have p6 := (p5.grown (World.grownBy_alloc w4 (.cells #[.int .i64 (x : Int)] 3) none) (by simp)).grown g5 hlow
      have o6 : w5.ownsRow W.heap.size 3 1 kv2 (ks ++ [x]).length ((ks ++ [x]).map natW) := by
        rw [List.length_append, List.map_append]
        exact o5
      have hv5 := visM_of d5.rd
      go_wp2_with fail
      go_roundw
      case rel => exact ⟨n', S2, ks ++ [x], v4, H1.out, HC2, H2, H3, H4, H5, Lib.hid d5, Lib.hid o6, Lib.hid p6⟩
      case measure => rw [hv5, HM.out]; exact H6.out
    | false =>
      have hC2 : R = (ks, S') := by
        rw [← hC.out]
        cases n with
        | zero => rfl
        | succ n => exact if_neg (by rw [hq]; simp)
      subst hC2
      obtain ⟨g, cap, rfl, hg1, hg2⟩ := hD.out.row.form (Nat.lt_of_le_of_lt (Nat.zero_le _) HLN.out)
      have hkl : ks.length < 1000000 := by have := hKl.out; omega
      have HTN := Lib.hid (takeR_no hq)
      clear hC hm hn hq
      go_wp2_with fail
      refine HSE.out.mono ?_
      rintro e w3 ⟨rfl, r3, g3⟩
      rw [HTN.out] at r3
      have d3 := hD.out.step r3 g3
      have hkB0 : (Value.slice kp ks.length kc).ownBlock ≠ some B := fun e2 => hD.out.rd.not_row (by decide) hO.out e2.symm
      have o3 := hO.out.kept g3 (.inr hkB0)
      have p3 := hG2.out.trans (PF.of (.slice (some ⟨g, 0, none⟩) S'.L.length cap) g3)
      obtain ⟨kp', kc', hkv, hK⟩ := KI_of_own d3 o3 rfl
      injection hkv with hk1 hk2 hk3
      subst hk1 hk3
      go_wp2_with fail
      refine (adopt_any t S'.r g cap x5 x6 _ S'.L N w3 B S.L.length HLN.out ks HKI.out hkl kp kc d3.rd d3.row hK).mono ?_
      rintro e w4 ⟨rfl, r4, o4, g4⟩
      go_wp2_with fail
      go_ret
      rw [hRes.out]
      refine ⟨rfl, .slice (some ⟨g, 0, none⟩) S'.L.length cap, ⟨r4, ?_, ?_, h.lo, h.hi⟩, ?_⟩
      · show w4.ownsRow N _ 9 _ (adoptL S'.L (S.L.length, false) ks).length (ndsC (adoptL S'.L (S.L.length, false) ks))
        rw [adoptL_length]
        exact o4
      · exact d3.st.keep g4 (fun e => by injection e with e; have := h.lo; omega)
      · exact p3.trans ⟨g4.os, g4.tape, g4.output, g4.size, fun k hk h1 h2 => g4.block k hk (fun e => h2 (by rw [e]; rfl)), .inl rfl⟩
end Go.Proofs.YtdnbnigebejgjaaGreatDoor
namespace Go.Proofs.YtdnbnigebejgjaaGreatDoor
open Go.RowKit
theorem times3 (t : List UInt8) (s : RS) (x4 x5 x6 x7 : Value) (X : World) (B : Nat) (h : RD X B t s x4 x5 x6 x7) (hS : ST X) (hSB : 0 < B) :
    Calls Tryz.prog 107 #[.pointer (some ⟨B, 0, none⟩), .slice (some ⟨X.heap.size, 0, none⟩) 3 3] (X.alloc (.cells #[.int .i64 1, .int .i64 2, .int .i64 3] 3)).drew fun e w' => e = .returned (.int .i64 (timesV t s [1, 2, 3] : Int)) ∧ RD w' B t (timesR t s [1, 2, 3]) x4 x5 x6 x7 ∧ X.grownBy w' (some B) := by
  have hlt := h.lt
  have hg := World.grownBy_alloc X (.cells #[.int .i64 1, .int .i64 2, .int .i64 3] 3) none
  refine (times_any t s x4 x5 x6 x7 [1, 2, 3] (by simp) (by simp) _ B X.heap.size 0 3 (jplain h _).drew (hS.keep (jgdrew hg) (by simp)) hSB (by omega) (by show X.heap.size < (X.alloc _).heap.size; simp) ?_).mono ?_
  · intro j hj
    have hk : (X.alloc (.cells #[.int .i64 1, .int .i64 2, .int .i64 3] 3)).heap[X.heap.size]? = _ := heap_alloc_new X _
    show (X.alloc (.cells #[.int .i64 1, .int .i64 2, .int .i64 3] 3)).cell? _ = _
    rw [cell_of_row _ _ _ _ _ _ hk]
    match j, hj with
    | 0, _ => rfl
    | 1, _ => rfl
    | 2, _ => rfl
  · rintro e w' ⟨he, hr, hgw⟩
    exact ⟨he, hr, jgtrans (jgdrew (World.grownBy_alloc X _ (some B))) hgw⟩
theorem times1 (t : List UInt8) (s : RS) (x4 x5 x6 x7 : Value) (X : World) (B : Nat) (h : RD X B t s x4 x5 x6 x7) (hS : ST X) (hSB : 0 < B) :
    Calls Tryz.prog 107 #[.pointer (some ⟨B, 0, none⟩), .slice (some ⟨X.heap.size, 0, none⟩) 1 1] (X.alloc (.cells #[.int .i64 3] 3)).drew fun e w' => e = .returned (.int .i64 (timesV t s [3] : Int)) ∧ RD w' B t (timesR t s [3]) x4 x5 x6 x7 ∧ X.grownBy w' (some B) := by
  have hlt := h.lt
  have hg := World.grownBy_alloc X (.cells #[.int .i64 3] 3) none
  refine (times_any t s x4 x5 x6 x7 [3] (by simp) (by simp) _ B X.heap.size 0 1 (jplain h _).drew (hS.keep (jgdrew hg) (by simp)) hSB (by omega) (by show X.heap.size < (X.alloc _).heap.size; simp) ?_).mono ?_
  · intro j hj
    have hk : (X.alloc (.cells #[.int .i64 3] 3)).heap[X.heap.size]? = _ := heap_alloc_new X _
    show (X.alloc (.cells #[.int .i64 3] 3)).cell? _ = _
    rw [cell_of_row _ _ _ _ _ _ hk]
    match j, hj with
    | 0, _ => rfl
  · rintro e w' ⟨he, hr, hgw⟩
    exact ⟨he, hr, jgtrans (jgdrew (World.grownBy_alloc X _ (some B))) hgw⟩
theorem ndsC_times (L : List ND) (i x : Nat) (hi : i < L.length) : (ndsC L).set (i * 9 + 1) (.int .i64 (x : Int)) = ndsC (setTimes L i x) := ndsC_set 1 (by omega) _ _ (ndC_times x) L i hi
set_option maxHeartbeats 4000000 in
set_option maxRecDepth 100000 in
theorem atom_any (t : List UInt8) (B N : Nat) (x5 x6 : Value) (S : PS) (v : Value) (W : World) (h : PB W B N t S v x5 x6) (hpot : pot t S ≤ 100000) (hb : Lib.hasPrefix (restR t S.r) [40] = false) :
    Calls Tryz.prog 92 #[.pointer (some ⟨B, 0, none⟩)] W fun e w' => e = .returned (.int .i64 ((atomP t S).1 : Int)) ∧ ∃ v', PB w' B N t (atomP t S).2 v' x5 x6 ∧ PF B v v' W w' := by
  have hNB := h.hi
  have hlo := h.lo
  have hlt := h.lt
  have hL0 : S.L.length < 1000000 := by unfold pot at hpot; omega
  obtain ⟨⟨a, b, c, d⟩, hw⟩ : ∃ w, setV t S.r = w := ⟨_, rfl⟩
  obtain ⟨r1, hr1⟩ : ∃ r, setR t S.r = r := ⟨_, rfl⟩
  obtain ⟨x, hx⟩ : ∃ x, timesV t r1 [1, 2, 3] = x := ⟨_, rfl⟩
  obtain ⟨r2, hr2⟩ : ∃ x, timesR t r1 [1, 2, 3] = x := ⟨_, rfl⟩
  obtain ⟨L1, hL1⟩ : ∃ L1, S.L ++ [(⟨1, 0, ⟨a, b, c, d⟩, 0, -1, -1⟩ : ND)] = L1 := ⟨_, rfl⟩
  have hl1 : L1.length = S.L.length + 1 := by rw [← hL1]; simp
  have hRes : Hid (atomP t S = (S.L.length, ⟨r2, setTimes L1 S.L.length x, S.g⟩)) := Lib.hid (by
    unfold atomP addP bare
    dsimp only
    rw [hr1, hw, hr2, hx, hL1])
  have hSET := set_any t S.r v x5 x6 (.int .i64 (S.g : Int))
  rw [hw, hr1] at hSET
  have HSET := Lib.hid hSET
  clear hSET hw hr1
  go_enter Tryz.func92, Tryz.ntmps92
  go_wp2_with fail
  refine (rest_any t S.r v x5 x6 _ _ B h.rd).mono ?_
  rintro e w1 ⟨rfl, hb1⟩
  have h1 := h.step (h.rd.below hb1 hlt) (jgrown B hb1)
  have p1 := PF.of v (jgrown B hb1)
  go_wp2_with fail
  refine (prefix_any _ [40] _).mono ?_
  rintro e w2 ⟨rfl, rfl⟩
  rw [hb]
  go_wp2_with fail
  refine (HSET.out _ B h1.rd).mono ?_
  rintro e w3 ⟨rfl, q3, g3⟩
  have h3 := h1.step q3 g3
  have p3 := p1.trans (PF.of v g3)
  have hz3 := p3.size
  clear h1 p1 hb1 q3 g3
  go_wp2_with fail
  refine (add_any t r1 v x5 x6 _ (⟨1, 0, ⟨a, b, c, d⟩, 0, 0, 0⟩ : ND) S.L hL0 N w3 B (by omega) h3.rd h3.row).mono ?_
  rintro e w4 ⟨rfl, v4, q4, o4, p4⟩
  have h4 : PB w4 B N t (addP { S with r := r1 } (⟨1, 0, ⟨a, b, c, d⟩, 0, 0, 0⟩ : ND)) v4 x5 x6 := h3.add q4 o4 p4
  have p5 := p3.trans p4
  have h5 : PB w4 B N t ⟨r1, L1, S.g⟩ v4 x5 x6 := by rw [← hL1]; exact h4
  clear h3 p3 q4 o4 p4 h4
  obtain ⟨g, cap, rfl, hg1, hg2⟩ := h5.row.form (by show 0 < L1.length; omega)
  obtain ⟨d4, d5, d6, d7⟩ := h5.rd.cells2
  have hbd : (S.L.length : Int) < (L1.length : Int) := by omega
  have hT := times3 t r1 (.slice (some ⟨g, 0, none⟩) L1.length cap) x5 x6 (.int .i64 (S.g : Int)) w4 B h5.rd h5.st (by omega)
  rw [hx, hr2] at hT
  have HT := Lib.hid hT
  clear hT hx hr2 hL1
  go_wp2_with fail
  have hne := h5.ne
  have hz4 := h5.lt
  have hj : S.L.length * 9 + 1 < L1.length * 9 := by omega
  go_region_with (go_at_call 107; refine HT.out.mono ?_; rintro e w6 ⟨rfl, q6, g6⟩; have o6 := h5.row.kept g6 (.inr (fun e => hne e.symm)); have c6 := o6.cellAt (S.L.length * 9 + 1) hj; rw [List.getElem?_eq_getElem (show S.L.length * 9 + 1 < (ndsC L1).length by rw [ndsC_length]; exact hj)] at c6; have f6 := o6.frozenAt (S.L.length * 9 + 1); obtain ⟨e4, e5, e6, e7⟩ := q6.cells2)
  all_goals
    go_wp2_with fail
    go_ret
    obtain ⟨o7, g7⟩ := o6.stored (S.L.length * 9 + 1) (.int .i64 (x : Int))
    have h6 := h5.step q6 g6
    rw [hRes.out]
    refine ⟨rfl, .slice (some ⟨g, 0, none⟩) L1.length cap, ⟨q6.kept g7 (fun e => hne e), ?_, h6.st.keep g7 (fun e => by injection e; omega), hlo, hNB⟩, ?_⟩
    · show World.ownsRow _ N _ 9 _ (setTimes L1 S.L.length x).length (ndsC (setTimes L1 S.L.length x))
      rw [setTimes_length, ← ndsC_times _ _ _ (by omega)]
      exact o7
    · exact (p5.trans (PF.of _ g6)).trans ⟨g7.os, g7.tape, g7.output, g7.size, fun k hk h1 h2 => g7.block k hk (fun e => h2 (by rw [e]; rfl)), .inl rfl⟩
end Go.Proofs.YtdnbnigebejgjaaGreatDoor
