/-
  The program's words: all words of a line, or the first fault.
-/
import Derived.Test.YtacceiloggnekaaDoorRPWd
import Derived.RegionTactic
import Derived.BigRegion
namespace Go.Proofs.YtacceiloggnekaaDoor
open Go.RowKit
attribute [local go_sem] ba_get
theorem rowL_skip : ∀ (r : List UInt8) (o : Nat), rowL o r = rowL (o + sk r) (r.drop (sk r))
  | [], _ => rfl
  | c :: r, o => by
    have ih := rowL_skip r (o + 1)
    unfold sk
    cases h : isBl c
    · simp
    · rw [rowL_cons, h]
      simp only [if_true]
      rw [ih, List.drop_succ_cons, show o + 1 + sk r = o + (sk r + 1) by omega]
theorem sk_cons (c : UInt8) (r : List UInt8) : sk (c :: r) = if isBl c then sk r + 1 else 0 := rfl
theorem sk_stop {l : List UInt8} {k : Nat} (h : k + sk (l.drop k) < l.length) : isBl (l[k + sk (l.drop k)]'h) = false := by
  have gen : ∀ (r : List UInt8) (h : sk r < r.length), isBl (r[sk r]'h) = false := by
    intro r
    induction r with
    | nil => intro h; simp at h
    | cons c r ih =>
      intro h
      cases hc : isBl c
      · have e : sk (c :: r) = 0 := by rw [sk_cons, hc]; rfl
        simp only [e, List.getElem_cons_zero, hc]
      · have e : sk (c :: r) = sk r + 1 := by rw [sk_cons, hc]; rfl
        simp only [e, List.getElem_cons_succ]
        exact ih (by rw [e] at h; simpa using h)
  have := gen (l.drop k) (by simp; omega)
  simpa using this
theorem CBlk.other2i {t : TypeId} {w : World} {B C : Nat} {cs : List Value} (h : CBlk t w B cs) (hne : B < C) (i k : Nat) (a b : Value) : CBlk t ((w.setCell ⟨C, i, none⟩ a).setCell ⟨C, k, none⟩ b) B cs :=
  (h.other _ (by show C ≠ B; omega) _).other _ (by show C ≠ B; omega) _
/-- Memory of words: the reader at k, the fault to answer, the words read, and nothing else has changed. -/
structure St (w : World) (B : Nat) (l : List UInt8) (F k : Nat) (v : Value) (P : List Wd) (W : World) : Prop where
  cur : Cur W B l k (F : Int)
  flt : CBlk 26 W w.heap.size [.int .i64 0, .int .i64 0]
  row : W.ownsRow w.heap.size 47 3 v P.length (wdsC P)
  grw : w.grownBy W (some B)
theorem St.step {w W W' : World} {B F k k' : Nat} {l : List UInt8} {v : Value} {P : List Wd} (h : St w B l F k v P W) (hB : B < w.heap.size) (hg : W.grownBy W' (some B)) (hc : Cur W' B l k' (F : Int)) : St w B l F k' v P W' :=
  ⟨hc, h.flt.kept hg (fun e => by injection e with e; omega), h.row.kept hg (.inr fun e => by have := (h.row.lt B e).1; omega), h.grw.trans hg⟩
theorem St.drewN {w W : World} {B F k : Nat} {l : List UInt8} {v : Value} {P : List Wd} (h : St w B l F k v P W) (n : Nat) : St w B l F k v P (W.drewN n) := ⟨h.cur, h.flt, h.row, grown_drewN h.grw n⟩
theorem St.alloc {w W : World} {B F k : Nat} {l : List UInt8} {v : Value} {P : List Wd} (h : St w B l F k v P W) (o : Obj) : St w B l F k v P (W.alloc o) :=
  ⟨CBlk.alloc h.cur o, h.flt.alloc o, h.row.alloc o, h.grw.trans (World.grownBy_alloc W o _)⟩
/-- A store into a block of one's own that is none of these. -/
theorem St.store {w W : World} {B F k C : Nat} {l : List UInt8} {v : Value} {P : List Wd} (h : St w B l F k v P W) (hB : B < w.heap.size) (hC : w.heap.size < C) (hv : ∀ g, v.ownBlock = some g → g ≠ C) (i : Nat) (a : Value) : St w B l F k v P (W.setCell ⟨C, i, none⟩ a) :=
  ⟨CBlk.other h.cur _ (by show C ≠ B; omega) a, h.flt.other _ (by show C ≠ _; omega) a, own_store_lt h.row hv i a, h.grw.andThen (grown_store W C i a) (fun j e => .inl (by injection e with e; omega))⟩
theorem words_results {w : World} {B : Nat} {a b v : Value} (hb : CBlk 26 w B [a, b]) {fn : Func} {p n : Tmp} (h : fn.results = #[.tmp p, .cell n 26]) (tmps : Array Value)
    (hp : tmps.getD p undef = v) (hn : tmps.getD n undef = .pointer (some ⟨B, 0, none⟩)) : (Go.results fn tmps).run Tryd.prog w = .ok (.tuple #[v, .agg #[a, b]]) w := by
  have hp' : tmps[p]?.getD undef = v := by simpa using hp
  have hn' : tmps[n]?.getD undef = .pointer (some ⟨B, 0, none⟩) := by simpa using hn
  obtain ⟨c0, c1⟩ := hb.cells2
  simp [Go.results, h, hp', hn', asAddr, go_sem, c0, c1]
/-- What words answers. -/
def WsPost (base : Nat) (R : Nat ⊕ List Wd) (e : Ending) (w' : World) : Prop :=
  match R with
  | .inl p => e = .returned (.tuple #[.slice none 0 0, .agg #[.int .i64 3, .int .i64 (p : Int)]])
  | .inr ws => ∃ v, e = .returned (.tuple #[v, .agg #[.int .i64 0, .int .i64 0]]) ∧ w'.ownsRow base 47 3 v ws.length (wdsC ws)
theorem grown_new {w W : World} {row : Option Nat} (h : w.grownBy W row) {C : Nat} (hC : w.heap.size ≤ C) (i : Nat) (a : Value) : w.grownBy (W.setCell ⟨C, i, none⟩ a) row :=
  h.andThen (grown_store W C i a) (fun j e => .inl (by injection e with e; omega))
set_option maxRecDepth 100000 in
set_option maxHeartbeats 16000000 in
theorem words_any (l : List UInt8) (hl : l.length < 1000000) (F : Nat) (hF : F < 1000000) (B : Nat) (w : World) (hBw : B < w.heap.size) (hC : Cur w B l 0 (F : Int)) (hV : VTB w B) :
    Calls Tryd.prog 33 #[.pointer (some ⟨B, 0, none⟩)] w fun e w' => WsPost w.heap.size (rowL F l) e w' ∧ w.grownBy w' (some B) := by
  obtain ⟨i0, hi, hz0, hz1, hz2⟩ := info_parts infoW
  obtain ⟨R, hR⟩ : ∃ R, rowL F l = R := ⟨_, rfl⟩
  rw [hR]
  have HR := Lib.hid hR
  have HV : Hid (VTB w B) := Lib.hid hV
  have HS0 : Hid (St w B l F 0 (.slice none 0 0) [] (w.alloc (.cells #[.int .i64 0, .int .i64 0] 26))) := Lib.hid
    ⟨CBlk.alloc hC _, CBlk.new 26 w _, World.ownsRow_nil _ _ _ _, World.grownBy_alloc w _ _⟩
  clear hR hC hV
  go_enter Tryd.func33, Tryd.ntmps33
  go_wp2_with fail
  go_loopw [4] (fun o wr => ∃ (k : Nat) (P : List Wd), k ≤ l.length ∧ P.length ≤ k ∧ Hid (St w B l F k o P wr) ∧ Hid (accR P (rowL (F + k) (l.drop k)) = R)) (fun _ wr => l.length - curPos wr B)
  case atStart => exact ⟨0, [], Nat.zero_le _, Nat.le_refl _, HS0, Lib.hid (by rw [List.drop_zero, accR_nil]; exact HR.out)⟩
  case round =>
    obtain ⟨k, P, hk, hP, hS, hst⟩ := hrel
    rename World => W
    obtain ⟨ov, oc, rfl⟩ := own_slice hS.out.row
    have hTW := fun W' hc => toWord_any l hl k (F : Int) B hk W' hc
    have hskl := sk_le (l.drop k)
    rw [List.length_drop] at hskl
    have hstop := fun h => sk_stop (l := l) (k := k) h
    have hst2 : accR P (rowL (F + (k + sk (l.drop k))) (l.drop (k + sk (l.drop k)))) = R := by
      have h := hst.out
      rw [rowL_skip, List.drop_drop, Nat.add_assoc] at h
      exact h
    have hpos := Lib.hid hS.out.cur.pos
    obtain ⟨j, hj⟩ : ∃ j, k + sk (l.drop k) = j := ⟨_, rfl⟩
    rw [hj] at hTW hst2
    have hkj : k ≤ j := by omega
    have hjl : j ≤ l.length := by omega
    have hstop2 : ∀ h : j < l.length, isBl (l[j]'h) = false := fun h => by
      have := hstop (by omega)
      simp only [hj] at this
      exact this
    clear hstop hst hskl
    obtain ⟨b, hb⟩ : ∃ b, wdB l j = b := ⟨_, rfl⟩
    rw [hb] at hTW
    have HTW := Lib.hid hTW
    clear hTW hj
    cases b
    · have hres : Hid (R = .inr P) := Lib.hid (by
        rw [← hst2]
        by_cases hlt : j < l.length
        · unfold wdB at hb
          rw [List.getElem?_eq_getElem hlt, decide_eq_true hlt] at hb
          have h35 : (l[j]).toNat = 35 := by simpa using hb
          rw [List.drop_eq_getElem_cons hlt, rowL_cons, hstop2 hlt, if_neg (by simp), if_pos h35]
          show Sum.inr (P ++ []) = _
          rw [List.append_nil]
        · rw [List.drop_eq_nil_of_le (by omega), rowL_nil]
          show Sum.inr (P ++ []) = _
          rw [List.append_nil])
      clear hb hst2 hstop2
      go_wp2_with fail
      refine (HTW.out _ hS.out.cur).mono ?_
      rintro e w1 ⟨rfl, hc, hg⟩
      have hS1 := hS.out.step hBw hg hc
      clear hc hg
      obtain ⟨e0, e1⟩ := hS1.flt.cells2
      have g0 := hS1.flt.free 0
      have g1 := hS1.flt.free 1
      have HS1 := Lib.hid hS1
      clear hS1
      go_wp2_with fail
      have hfl := HS1.out.flt.store2 rfl (.int .i64 0) (.int .i64 0)
      refine bodyPost_ret (words_results hfl rfl _ rfl rfl) rfl ⟨?_, grown_new (grown_new HS1.out.grw (Nat.le_refl _) 0 _) (Nat.le_refl _) 1 _⟩
      rw [hres.out]
      exact ⟨_, rfl, own_store2 HS1.out.row HS1.out.flt (by decide) _ _⟩
    · have hjlt : j < l.length := by
        unfold wdB at hb
        by_cases h : j < l.length
        · exact h
        · rw [decide_eq_false h] at hb; simp at hb
      have h35 : (l[j]).toNat ≠ 35 := by
        unfold wdB at hb
        rw [List.getElem?_eq_getElem hjlt, decide_eq_true hjlt] at hb
        simpa using hb
      have hwa := word_any l hl j (F : Int) B hjlt (hstop2 hjlt) h35
      obtain ⟨t, q, n, hw⟩ := wordT_q (l := l) (k := j)
      have hwl := wordT_len hjlt
      have hdr := List.drop_eq_getElem_cons hjlt
      have hstep := rowL_cons (F + j) l[j] (l.drop (j + 1))
      rw [hstop2 hjlt, if_neg (by simp), if_neg h35, ← hdr, ← wordT_drop hjlt, List.drop_drop, hw] at hstep
      rw [hw] at hwl
      dsimp only at hstep hwl
      obtain ⟨a0, ha0⟩ : ∃ a0, F + j = a0 := ⟨_, rfl⟩
      have q1 : IntKind.i64.wrap ((F : Int) + (j : Int)) = (a0 : Int) := by rw [IntKind.wrap_i64]; omega
      have q1b : (F : Int) + (j : Int) = (a0 : Int) := by omega
      rw [ha0] at hst2 hstep
      rw [hstep] at hst2
      clear hb hstop2 h35 hdr hstep
      by_cases hn0 : n = 0
      · have hres : Hid (R = .inl a0) := Lib.hid (by rw [← hst2, if_pos hn0]; rfl)
        have HWA : Hid (∀ W, Cur W B l j (F : Int) → VTB W B → Calls Tryd.prog 46 #[.pointer (some ⟨B, 0, none⟩)] W fun e w' => (∃ (t : List UInt8) (q : Bool), e = .returned (.tuple #[.string ⟨t.toArray⟩, .bool q, .bool false])) ∧ W.grownBy w' (some B)) := Lib.hid (fun W a b => (hwa W a b).mono fun e w' ⟨g1, g2⟩ => ⟨by
          unfold WPost at g1
          rw [hw, if_pos hn0] at g1
          exact g1, g2⟩)
        have HA0 := Lib.hid ha0
        clear hwa hw hwl hst2 hn0 ha0
        go_wp2_with fail
        refine (HTW.out _ hS.out.cur).mono ?_
        rintro e w1 ⟨rfl, hc, hg⟩
        have hS1 := hS.out.step hBw hg hc
        obtain ⟨e0, e1, e2⟩ := hS1.cur.cells
        obtain ⟨-, e4, e5⟩ := Cur.cells (CBlk.alloc hS1.cur (.cells #[.int .i64 0, .string ⟨#[]⟩, .bool false] 47))
        clear hc hg
        have HS1 := Lib.hid hS1
        clear hS1
        go_upto_region 3 with fail
        go_region
        obtain ⟨W2, hW2⟩ : ∃ W2, (w1.alloc (.cells #[.int .i64 (a0 : Int), .string ⟨#[]⟩, .bool false] 47)).drew = W2 := ⟨_, rfl⟩
        rw [hW2]
        have hS2 : St w B l F j (.slice ov P.length oc) P W2 := by rw [← hW2]; exact (HS1.out.alloc _).drewN 1
        have hb2 : CBlk 47 W2 w1.heap.size [.int .i64 (a0 : Int), .string ⟨#[]⟩, .bool false] := by
          rw [← hW2]; exact CBlk.new 47 w1 _
        have hCw : w.heap.size < w1.heap.size := HS1.out.flt.lt
        have hBC : B ≠ w1.heap.size := by omega
        have hrl : ∀ g, (Value.slice ov P.length oc).ownBlock = some g → g ≠ w1.heap.size := fun g hg => by have := (HS1.out.row.lt g hg).2; omega
        obtain ⟨C, hCe⟩ : ∃ C, w1.heap.size = C := ⟨_, rfl⟩
        rw [hCe] at hb2 hCw hBC hrl ⊢
        have HS2 := Lib.hid hS2
        have HRL := Lib.hid hrl
        clear hW2 hS2 HS1 e0 e1 e2 e4 e5 hCe hrl
        go_wp2_with fail
        refine (HWA.out _ HS2.out.cur (HV.out.step HS2.out.grw)).mono ?_
        rintro e W3 ⟨⟨t', q', rfl⟩, hg⟩
        have hb3 : CBlk 47 W3 C [.int .i64 (a0 : Int), .string ⟨#[]⟩, .bool false] := hb2.kept hg (fun e => hBC (by injection e with e; exact e.symm))
        have hf3 := HS2.out.flt.kept hg (fun e => by injection e with e; omega)
        have hG3 := Lib.hid (HS2.out.grw.trans hg)
        obtain ⟨-, e1, e2⟩ := hb3.cells3
        have f1 := hb3.free 1
        have f2 := hb3.free 2
        clear hg hb2
        obtain ⟨W4, hW4⟩ : ∃ W4, (W3.setCell ⟨C, 1, none⟩ (.string ⟨t'.toArray⟩)).setCell ⟨C, 2, none⟩ (.bool q') = W4 := ⟨_, rfl⟩
        have hb4 : CBlk 47 W4 C [.int .i64 (a0 : Int), .string ⟨t'.toArray⟩, .bool q'] := by rw [← hW4]; exact (hb3.set 1 (.string ⟨t'.toArray⟩)).set 2 (.bool q')
        have hf4 : CBlk 26 W4 w.heap.size [.int .i64 0, .int .i64 0] := by rw [← hW4]; exact hf3.other2i hCw 1 2 _ _
        have hG4 : Hid (w.grownBy W4 (some B)) := Lib.hid (by rw [← hW4]; exact grown_new (grown_new hG3.out (by omega) 1 _) (by omega) 2 _)
        obtain ⟨c0, -, -⟩ := hb4.cells3
        obtain ⟨g0, g1⟩ := hf4.cells2
        have k0 := hf4.free 0
        have k1 := hf4.free 1
        go_upto_region 7 with fail
        clear hW4 e1 e2 f1 f2
        go_region
        all_goals
          go_wp2_with fail
          refine bodyPost_ret (words_results ((hf4.store2 rfl (.int .i64 3) (.int .i64 (a0 : Int))).drew) rfl _ rfl rfl) rfl ⟨?_, ?_⟩
          · rw [hres.out]; rfl
          · exact grown_drewN (grown_new (grown_new hG4.out (Nat.le_refl _) 0 _) (Nat.le_refl _) 1 _) 1
      · have hnext : Hid (accR (P ++ [⟨(a0 : Int), t, q⟩]) (rowL (F + (j + n)) (l.drop (j + n))) = R) := Lib.hid (by rw [← hst2, if_neg hn0, accR_cons, ← ha0, Nat.add_assoc])
        have HWA : Hid (∀ W, Cur W B l j (F : Int) → VTB W B → Calls Tryd.prog 46 #[.pointer (some ⟨B, 0, none⟩)] W fun e w' => e = .returned (.tuple #[.string ⟨t.toArray⟩, .bool q, .bool true]) ∧ Cur w' B l (j + n) (F : Int) ∧ W.grownBy w' (some B)) := Lib.hid (fun W a b => (hwa W a b).mono fun e w' ⟨g1, g2⟩ => by
          unfold WPost at g1
          rw [hw, if_neg hn0] at g1
          exact ⟨g1.1, g1.2, g2⟩)
        have HA0 := Lib.hid ha0
        have hn1 : 1 ≤ n := by omega
        clear hwa hw hst2 hn0 ha0
        go_wp2_with fail
        refine (HTW.out _ hS.out.cur).mono ?_
        rintro e w1 ⟨rfl, hc, hg⟩
        have hS1 := hS.out.step hBw hg hc
        obtain ⟨e0, e1, e2⟩ := hS1.cur.cells
        obtain ⟨-, e4, e5⟩ := Cur.cells (CBlk.alloc hS1.cur (.cells #[.int .i64 0, .string ⟨#[]⟩, .bool false] 47))
        clear hc hg
        have HS1 := Lib.hid hS1
        clear hS1
        go_upto_region 3 with fail
        go_region
        obtain ⟨W2, hW2⟩ : ∃ W2, (w1.alloc (.cells #[.int .i64 (a0 : Int), .string ⟨#[]⟩, .bool false] 47)).drew = W2 := ⟨_, rfl⟩
        rw [hW2]
        have hS2 : St w B l F j (.slice ov P.length oc) P W2 := by rw [← hW2]; exact (HS1.out.alloc _).drewN 1
        have hb2 : CBlk 47 W2 w1.heap.size [.int .i64 (a0 : Int), .string ⟨#[]⟩, .bool false] := by
          rw [← hW2]; exact CBlk.new 47 w1 _
        have hCw : w.heap.size < w1.heap.size := HS1.out.flt.lt
        have hBC : B ≠ w1.heap.size := by omega
        have hrl : ∀ g, (Value.slice ov P.length oc).ownBlock = some g → g ≠ w1.heap.size := fun g hg => by have := (HS1.out.row.lt g hg).2; omega
        obtain ⟨C, hCe⟩ : ∃ C, w1.heap.size = C := ⟨_, rfl⟩
        rw [hCe] at hb2 hCw hBC hrl ⊢
        have HS2 := Lib.hid hS2
        have HRL := Lib.hid hrl
        clear hW2 hS2 HS1 e0 e1 e2 e4 e5 hCe hrl
        go_wp2_with fail
        refine (HWA.out _ HS2.out.cur (HV.out.step HS2.out.grw)).mono ?_
        rintro e W3 ⟨rfl, hc, hg⟩
        have hb3 : CBlk 47 W3 C [.int .i64 (a0 : Int), .string ⟨#[]⟩, .bool false] := hb2.kept hg (fun e => hBC (by injection e with e; exact e.symm))
        have hS3 := HS2.out.step hBw hg hc
        obtain ⟨-, e1, e2⟩ := hb3.cells3
        have f1 := hb3.free 1
        have f2 := hb3.free 2
        clear hg hb2 hc
        obtain ⟨W4, hW4⟩ : ∃ W4, (W3.setCell ⟨C, 1, none⟩ (.string ⟨t.toArray⟩)).setCell ⟨C, 2, none⟩ (.bool q) = W4 := ⟨_, rfl⟩
        have hb4 : CBlk 47 W4 C [.int .i64 (a0 : Int), .string ⟨t.toArray⟩, .bool q] := by rw [← hW4]; exact (hb3.set 1 (.string ⟨t.toArray⟩)).set 2 (.bool q)
        have hS4 : St w B l F (j + n) (.slice ov P.length oc) P W4 := by rw [← hW4]; exact (hS3.store hBw hCw HRL.out 1 _).store hBw hCw HRL.out 2 _
        obtain ⟨c0, c1, c2⟩ := hb4.cells3
        go_upto_region 8 with fail
        clear hW4 e1 e2 f1 f2 hS3
        have pl : P.length < 1000000 := by omega
        have z1 : (Value.agg #[.int .i64 0, .string ⟨#[]⟩, .bool false]).cells.size = 3 := by rfl
        have z2 : ∀ u ∈ ([.int .i64 (a0 : Int), .string ⟨t.toArray⟩, .bool q] : List Value), u.oneCell' = true := by simp [Value.oneCell']
        have z3 : P.length + 1 ≤ maxLen := by unfold maxLen; omega
        have hsz4 := hS4.grw.size
        have hS5 := hS4.alloc (.cells #[.int .i64 (a0 : Int), .string ⟨t.toArray⟩, .bool q] 47)
        have z4 : w.heap.size ≤ (W4.alloc (.cells #[.int .i64 (a0 : Int), .string ⟨t.toArray⟩, .bool q] 47)).heap.size := hS5.grw.size
        have HS5 := Lib.hid hS5
        clear hS4 hS5 hb4 hb3
        go_wp2_with (at_builtin; refine wpList_append_own _ rfl _ _ 43 rfl w.heap.size 47 i0 (.agg #[.int .i64 0, .string ⟨#[]⟩, .bool false]) 3 32 Tryd.underlying43 hi hz0 hz1 hz2 z1 (by decide) _ _ _ rfl HS5.out.row ⟨W4.heap.size, 0, none⟩ 1 1 [.int .i64 (a0 : Int), .string ⟨t.toArray⟩, .bool q] rfl rfl (cell_news W4 _ _) z2 z3 (by omega) z4 ?_; intro v' w6 hown' hgrow _)
        have hS6 : St w B l F (j + n) v' (P ++ [⟨(a0 : Int), t, q⟩]) w6 := by
          refine ⟨CBlk.kept HS5.out.cur hgrow (fun e => by have := (HS5.out.row.lt B e.symm).1; omega), HS5.out.flt.kept hgrow (HS5.out.flt.not_row (by decide) HS5.out.row), ?_, HS5.out.grw.andThen hgrow (fun r hr => .inl (HS5.out.row.lt r hr).1)⟩
          rw [List.length_append, wdsC_append, wdsC_one]
          exact hown'
        go_roundw
        case rel => exact ⟨j + n, P ++ [⟨(a0 : Int), t, q⟩], by omega, by rw [List.length_append]; simp; omega, Lib.hid hS6, hnext⟩
        case measure => rw [hpos.out, hS6.cur.pos]; omega
end Go.Proofs.YtacceiloggnekaaDoor
