/-
  The reference's row: the words of a line, for every line.
-/
import Derived.Test.YtacceiloggnekaaDoorRRowF
import Derived.Maps.AppendAt
import Derived.Laws.OwnMore
import Derived.Test.YtacceiloggnekaaDoorRNum
import Derived.Deep.DeepCutAuto
namespace Go.Proofs.YtacceiloggnekaaDoor
open Go.RowKit
attribute [local go_sem] ba_get
theorem infoW : (Tryd.prog.info? 47).map (fun i => (i.zero, i.size, i.bytes)) = some (some (.agg #[.int .i64 0, .string ⟨#[]⟩, .bool false]), 3, 32) := by kernel_rfl
/-- What row answers. -/
def rowOk (o : Nat) (v : Value) : Value := .tuple #[.agg #[.int .i64 (o : Int), v], .agg #[.int .i64 0, .int .i64 0]]
def rowErr (p : Nat) : Value := .tuple #[.agg #[.int .i64 0, .slice none 0 0], .agg #[.int .i64 3, .int .i64 (p : Int)]]
/-- The words of a row of one's own, or the fault. -/
def RowPost (w : World) (o : Nat) (R : Nat ⊕ List Wd) (e : Ending) (w' : World) : Prop :=
  match R with
  | .inl p => e = .returned (rowErr p)
  | .inr ws => ∃ v, e = .returned (rowOk o v) ∧ w'.ownsRow w.heap.size 47 3 v ws.length (wdsC ws)
theorem wordT_q {l : List UInt8} {k : Nat} : ∃ t q n, wordT l k = (t, q, n) := ⟨_, _, _, rfl⟩
theorem CBlk.store2 {t : TypeId} {w : World} {B : Nat} {cs : List Value} (h : CBlk t w B cs) (hl : cs.length = 2) (a b : Value) : CBlk t ((w.setCell ⟨B, 0, none⟩ a).setCell ⟨B, 1, none⟩ b) B [a, b] := by
  have := (h.set 0 a).set 1 b
  match cs, hl with
  | [x, y], _ => exact this
theorem CBlk.cells2 {t : TypeId} {w : World} {B : Nat} {a b : Value} (h : CBlk t w B [a, b]) : w.cell? ⟨B, 0, none⟩ = some a ∧ w.cell? ⟨B, 1, none⟩ = some b := ⟨h.cell 0 (by simp), h.cell 1 (by simp)⟩
theorem CBlk.cells3 {t : TypeId} {w : World} {B : Nat} {a b c : Value} (h : CBlk t w B [a, b, c]) : w.cell? ⟨B, 0, none⟩ = some a ∧ w.cell? ⟨B, 1, none⟩ = some b ∧ w.cell? ⟨B, 2, none⟩ = some c := ⟨h.cell 0 (by simp), h.cell 1 (by simp), h.cell 2 (by simp)⟩
theorem CBlk.other2 {t : TypeId} {w : World} {B C : Nat} {cs : List Value} (h : CBlk t w B cs) (hne : C ≠ B) (a b : Value) : CBlk t ((w.setCell ⟨C, 0, none⟩ a).setCell ⟨C, 1, none⟩ b) B cs := (h.other _ hne _).other _ hne _
theorem below_store2 {w wr : World} {B n : Nat} (hB : Below n w wr) (h : n ≤ B) (u v : Value) : Below n w ((wr.setCell ⟨B, 0, none⟩ u).setCell ⟨B, 1, none⟩ v) := (hB.setCell (p := ⟨B, 0, none⟩) h _).setCell (p := ⟨B, 1, none⟩) h _
theorem row_results {w : World} {B C : Nat} {a b c d : Value} (h1 : CBlk 45 w B [a, b]) (h2 : CBlk 26 w C [c, d]) {fn : Func} {p n : Tmp} (h : fn.results = #[.cell p 45, .cell n 26]) (tmps : Array Value)
    (hp : tmps.getD p undef = .pointer (some ⟨B, 0, none⟩)) (hn : tmps.getD n undef = .pointer (some ⟨C, 0, none⟩)) : (Go.results fn tmps).run Tryd.prog w = .ok (.tuple #[.agg #[a, b], .agg #[c, d]]) w := by
  have hp' : tmps[p]?.getD undef = .pointer (some ⟨B, 0, none⟩) := by simpa using hp
  have hn' : tmps[n]?.getD undef = .pointer (some ⟨C, 0, none⟩) := by simpa using hn
  obtain ⟨c0, c1⟩ := h1.cells2
  obtain ⟨d0, d1⟩ := h2.cells2
  simp [Go.results, h, hp', hn', asAddr, go_sem, c0, c1, d0, d1]
theorem grown_store (w : World) (B : Nat) (i : Nat) (a : Value) : w.grownBy (w.setCell ⟨B, i, none⟩ a) (some B) :=
  ⟨rfl, rfl, rfl, by simp, fun k _ hne => Below.heap_setCell _ _ _ _ (fun e => hne (by rw [e]))⟩
theorem own_store {w : World} {base : Nat} {e : TypeId} {size n : Nat} {v : Value} {xs : List Value} {t : TypeId} {B : Nat} {cs : List Value} (h : w.ownsRow base e size v n xs) (hb : CBlk t w B cs) (hte : t ≠ e) (i : Nat) (a : Value) : (w.setCell ⟨B, i, none⟩ a).ownsRow base e size v n xs :=
  h.kept (grown_store w B i a) (.inr fun e' => hb.not_row hte h e'.symm)
theorem own_store2 {w : World} {base : Nat} {e : TypeId} {size n : Nat} {v : Value} {xs : List Value} {t : TypeId} {B : Nat} {cs : List Value} (h : w.ownsRow base e size v n xs) (hb : CBlk t w B cs) (hte : t ≠ e) (a b : Value) : ((w.setCell ⟨B, 0, none⟩ a).setCell ⟨B, 1, none⟩ b).ownsRow base e size v n xs :=
  own_store (own_store h hb hte 0 a) (hb.set 0 a) hte 1 b
theorem own_belowR {W W' : World} {base : Nat} {e : TypeId} {size n : Nat} {v : Value} {xs : List Value} (h : W.ownsRow base e size v n xs) (hb : Below W.heap.size W W') : W'.ownsRow base e size v n xs :=
  h.kept ⟨hb.os, hb.tape, hb.output, hb.size, fun k hk _ => hb.block k hk⟩ (Decidable.em _)
theorem own_store_lt {W : World} {base : Nat} {e : TypeId} {size n : Nat} {v : Value} {xs : List Value} (h : W.ownsRow base e size v n xs) {B : Nat} (hB : ∀ g, v.ownBlock = some g → g ≠ B) (i : Nat) (a : Value) : (W.setCell ⟨B, i, none⟩ a).ownsRow base e size v n xs :=
  h.kept (grown_store W B i a) (.inr fun e' => hB B e' rfl)
theorem below_grownR {n : Nat} {w W W' : World} {row : Option Nat} (hB : Below n w W) (hn : n ≤ W.heap.size) (hg : W.grownBy W' row) (hr : ∀ r, row = some r → n ≤ r) : Below n w W' :=
  hB.trans ⟨hg.os, hg.tape, hg.output, hg.size, fun k hk => hg.block k (Nat.lt_of_lt_of_le hk hn) (fun e => by have := hr k e.symm; omega)⟩
theorem cell_news (W : World) (t : TypeId) (cs : List Value) : ∀ (j : Nat) u, cs[j]? = some u → (W.alloc (.cells cs.toArray t)).cell? ((⟨W.heap.size, 0, none⟩ : Addr).add j) = some u := fun j u h => by
  have e : (⟨W.heap.size, 0, none⟩ : Addr).add j = ⟨W.heap.size, j, none⟩ := by
    unfold Addr.add
    split
    · rename_i h; subst h; rfl
    · simp
  rw [e, World.cell?_alloc_new]
  simpa using h
/-- The world behind the last stores of row. -/
theorem row_fin {w wr : World} {v : Value} {P : List Wd} (b0 : CBlk 45 wr w.heap.size [.int .i64 0, .slice none 0 0]) (b1 : CBlk 26 wr (w.heap.size + 1) [.int .i64 0, .int .i64 0])
    (hrow : wr.ownsRow w.heap.size 47 3 v P.length (wdsC P)) (hB : Below w.heap.size w wr) (a b c d : Value) :
    CBlk 45 ((((wr.setCell ⟨w.heap.size, 0, none⟩ a).setCell ⟨w.heap.size, 1, none⟩ b).setCell ⟨w.heap.size + 1, 0, none⟩ c).setCell ⟨w.heap.size + 1, 1, none⟩ d) w.heap.size [a, b] ∧
    CBlk 26 ((((wr.setCell ⟨w.heap.size, 0, none⟩ a).setCell ⟨w.heap.size, 1, none⟩ b).setCell ⟨w.heap.size + 1, 0, none⟩ c).setCell ⟨w.heap.size + 1, 1, none⟩ d) (w.heap.size + 1) [c, d] ∧
    ((((wr.setCell ⟨w.heap.size, 0, none⟩ a).setCell ⟨w.heap.size, 1, none⟩ b).setCell ⟨w.heap.size + 1, 0, none⟩ c).setCell ⟨w.heap.size + 1, 1, none⟩ d).ownsRow w.heap.size 47 3 v P.length (wdsC P) ∧
    Below w.heap.size w ((((wr.setCell ⟨w.heap.size, 0, none⟩ a).setCell ⟨w.heap.size, 1, none⟩ b).setCell ⟨w.heap.size + 1, 0, none⟩ c).setCell ⟨w.heap.size + 1, 1, none⟩ d) := by
  have b1' := b1.other2 (C := w.heap.size) (by omega) a b
  exact ⟨(b0.store2 rfl a b).other2 (by omega) c d, b1'.store2 rfl c d, own_store2 (own_store2 hrow b0 (by decide) a b) b1' (by decide) c d, below_store2 (below_store2 hB (Nat.le_refl _) a b) (by omega) c d⟩
set_option maxRecDepth 100000 in
set_option maxHeartbeats 8000000 in
theorem refRow_any (l : List UInt8) (hl : l.length < 1000000) (o : Nat) (ho : o < 1000000) (w : World) :
    Calls Tryd.prog 34 #[.string ⟨l.toArray⟩, .int .i64 (o : Int)] w fun e w' => RowPost w o (rowL o l) e w' ∧ Below w.heap.size w w' := by
  obtain ⟨i0, hi, hz0, hz1, hz2⟩ := info_parts infoW
  obtain ⟨R, hR⟩ : ∃ R, rowL o l = R := ⟨_, rfl⟩
  rw [hR]
  have HR := Lib.hid hR
  clear hR
  go_enter Tryd.func34, Tryd.ntmps34
  go_wp2_with fail
  go_loopw [7] (fun i wr => ∃ (k : Nat) (P : List Wd) (p : Option Addr) (c : Nat), k ≤ l.length ∧ i = .int .i64 k ∧ P.length ≤ k ∧ Hid (accR P (rowL (o + k) (l.drop k)) = R) ∧
      CBlk 45 wr w.heap.size [.int .i64 0, .slice none 0 0] ∧ CBlk 26 wr (w.heap.size + 1) [.int .i64 0, .int .i64 0] ∧ CBlk 45 wr (w.heap.size + 1 + 1) [.int .i64 (o : Int), .slice p P.length c] ∧
      wr.ownsRow w.heap.size 47 3 (.slice p P.length c) P.length (wdsC P) ∧ Below w.heap.size w wr) (fun i _ => l.length - (intOf i).toNat)
  case atStart =>
    refine ⟨0, [], none, 0, Nat.zero_le _, rfl, Nat.le_refl _, Lib.hid (by rw [List.drop_zero, accR_nil]; exact HR.out), ?_, ?_, ?_, World.ownsRow_nil _ _ _ _, by go_grown⟩
    · exact ((CBlk.new 45 w [.int .i64 0, .slice none 0 0]).alloc _).alloc _
    · have := (CBlk.new 26 (w.alloc (.cells #[.int .i64 0, .slice none 0 0] 45)) [.int .i64 0, .int .i64 0]).alloc (.cells #[.int .i64 (o : Int), .slice none 0 0] 45)
      rw [World.size_alloc] at this
      exact this
    · have := CBlk.new 45 ((w.alloc (.cells #[.int .i64 0, .slice none 0 0] 45)).alloc (.cells #[.int .i64 0, .int .i64 0] 26)) [.int .i64 (o : Int), .slice none 0 0]
      rw [World.size_alloc, World.size_alloc] at this
      exact this
  case round =>
  obtain ⟨k, P, p, c, hk, rfl, hP, hst, b0, b1, b2, hrow, hB⟩ := hrel
  by_cases hlt : k < l.length
  · have d1 : decide ((k : Int) < (l.length : Int)) = true := decide_eq_true (by omega)
    have hb2 : (k : Int) < (l.length : Int) := by omega
    have hdr := List.drop_eq_getElem_cons hlt
    have hstep := rowL_cons (o + k) l[k] (l.drop (k + 1))
    rw [← hdr, ← wordT_drop hlt, List.drop_drop] at hstep
    have hwl := wordT_len hlt
    obtain ⟨z, hz⟩ : ∃ z, l[k] = z := ⟨_, rfl⟩
    rw [hz] at hstep
    obtain ⟨y, hy⟩ : ∃ y, z.toNat = y := ⟨_, rfl⟩
    have hy2 : y < 256 := by rw [← hy]; exact UInt8.toNat_lt _
    have hbl : blN y = isBl z := by rw [← hy]; rfl
    rw [hy] at hstep
    cases hq : isBl z
    · have HBL : Hid (blN y = false) := Lib.hid (by rw [hbl, hq])
      rw [hq, if_neg (by simp)] at hstep
      by_cases h35 : y = 35
      · have hres : Hid (R = .inr P) := Lib.hid (by rw [← hst.out, hstep, if_pos h35]; show Sum.inr (P ++ []) = _; rw [List.append_nil])
        subst h35
        clear hst hstep hbl hdr hwl
        obtain ⟨c0, c1⟩ := b2.cells2
        obtain ⟨a0, a1⟩ := b0.cells2
        obtain ⟨e0, e1⟩ := b1.cells2
        have f00 := b0.free 0
        have f01 := b0.free 1
        have f10 := b1.free 0
        have f11 := b1.free 1
        go_wp2_with fail
        refine (refBlank_any 35 (by omega) _).mono ?_
        rintro e w' ⟨rfl, rfl⟩
        rw [HBL.out]
        go_wp2_with fail
        obtain ⟨q1, q2, q3, q4⟩ := row_fin b0 b1 hrow hB (.int .i64 (o : Int)) (.slice p P.length c) (.int .i64 0) (.int .i64 0)
        exact bodyPost_ret (row_results q1 q2 rfl _ rfl rfl) rfl ⟨by rw [hres.out]; exact ⟨_, rfl, q3⟩, q4⟩
      · have e35 : ((y : Int) == 35) = false := by rw [beq_eq_false_iff_ne]; omega
        rw [if_neg h35] at hstep
        obtain ⟨t, q, n, hw⟩ := wordT_q (l := l) (k := k)
        have HW : Hid (wordW (wordT l k) = .tuple #[.agg #[.int .i64 0, .string ⟨t.toArray⟩, .bool q], .int .i64 (n : Int)]) := Lib.hid (by rw [hw]; rfl)
        rw [hw] at hstep hwl
        dsimp only at hstep hwl
        by_cases h0 : n = 0
        · have hres : Hid (R = .inl (o + k)) := Lib.hid (by rw [← hst.out, hstep, if_pos h0]; rfl)
          subst h0
          clear hst hstep hbl hdr hwl hw h35
          go_wp2_with fail
          refine (refBlank_any y hy2 _).mono ?_
          rintro e w' ⟨rfl, rfl⟩
          rw [HBL.out]
          go_wp2_with fail
          refine (refWord_any l hl k hlt _).mono ?_
          rintro e w1 ⟨rfl, hb⟩
          rw [HW.out]
          have b0 := b0.below hb b0.lt
          have b1 := b1.below hb b1.lt
          have hrow := own_belowR hrow hb
          have hB := hB.trans (hb.mono hB.size)
          have b0 := b0.alloc (.cells #[.int .i64 0, .string ⟨t.toArray⟩, .bool q] 47)
          have b1 := b1.alloc (.cells #[.int .i64 0, .string ⟨t.toArray⟩, .bool q] 47)
          have hrow := hrow.alloc (.cells #[.int .i64 0, .string ⟨t.toArray⟩, .bool q] 47)
          have hB := hB.alloc hB.size (.cells #[.int .i64 0, .string ⟨t.toArray⟩, .bool q] 47)
          obtain ⟨a0, a1⟩ := b0.cells2
          obtain ⟨e0, e1⟩ := b1.cells2
          have f00 := b0.free 0
          have f01 := b0.free 1
          have f10 := b1.free 0
          have f11 := b1.free 1
          clear hb
          go_wp2_with fail
          obtain ⟨q1, q2, q3, q4⟩ := row_fin b0 b1 hrow hB (.int .i64 0) (.slice none 0 0) (.int .i64 3) (.int .i64 ((o + k : Nat) : Int))
          exact bodyPost_ret (row_results q1 q2 rfl _ rfl rfl) rfl ⟨by rw [hres.out]; rfl, q4⟩
        · have hn0 : ((n : Int) == 0) = false := by rw [beq_eq_false_iff_ne]; omega
          rw [if_neg h0] at hstep
          have hnext : Hid (accR (P ++ [⟨((o + k : Nat) : Int), t, q⟩]) (rowL (o + (k + n)) (l.drop (k + n))) = R) := Lib.hid (by rw [← hst.out, hstep, accR_cons, Nat.add_assoc])
          clear hst hstep hbl hdr hw h35
          go_wp2_with fail
          refine (refBlank_any y hy2 _).mono ?_
          rintro e w' ⟨rfl, rfl⟩
          rw [HBL.out]
          go_wp2_with fail
          refine (refWord_any l hl k hlt _).mono ?_
          rintro e w1 ⟨rfl, hb⟩
          rw [HW.out]
          have b0 := b0.below hb b0.lt
          have b1 := b1.below hb b1.lt
          have b2 := b2.below hb b2.lt
          have hrow := own_belowR hrow hb
          have hB := hB.trans (hb.mono hB.size)
          clear hb
          have hl2 := b2.lt
          have hv : ∀ g, (Value.slice p P.length c).ownBlock = some g → g ≠ w1.heap.size := fun g hg => by have := (hrow.lt g hg).2; omega
          obtain ⟨W2, hW2⟩ : ∃ W2, (w1.alloc (.cells #[.int .i64 0, .string ⟨t.toArray⟩, .bool q] 47)).setCell ⟨w1.heap.size, 0, none⟩ (.int .i64 ((o : Int) + (k : Int))) = W2 := ⟨_, rfl⟩
          have hrow2 : W2.ownsRow w.heap.size 47 3 (.slice p P.length c) P.length (wdsC P) := by rw [← hW2]; exact own_store_lt (hrow.alloc _) hv 0 _
          have hB2 : Below w.heap.size w W2 := by rw [← hW2]; exact (hB.alloc hB.size _).setCell (p := ⟨w1.heap.size, 0, none⟩) hB.size _
          have b0 : CBlk 45 W2 w.heap.size [.int .i64 0, .slice none 0 0] := by rw [← hW2]; exact (b0.alloc _).other _ (by show w1.heap.size ≠ _; omega) _
          have b1 : CBlk 26 W2 (w.heap.size + 1) [.int .i64 0, .int .i64 0] := by rw [← hW2]; exact (b1.alloc _).other _ (by show w1.heap.size ≠ _; omega) _
          have b2 : CBlk 45 W2 (w.heap.size + 1 + 1) [.int .i64 (o : Int), .slice p P.length c] := by rw [← hW2]; exact (b2.alloc _).other _ (by show w1.heap.size ≠ _; omega) _
          have bw : CBlk 47 W2 w1.heap.size [.int .i64 ((o : Int) + (k : Int)), .string ⟨t.toArray⟩, .bool q] := by
            rw [← hW2]
            exact (CBlk.new 47 w1 [.int .i64 0, .string ⟨t.toArray⟩, .bool q]).set 0 _
          obtain ⟨c0, c1⟩ := b2.cells2
          obtain ⟨g0, g1, g2⟩ := bw.cells3
          have q1 : IntKind.i64.wrap ((o : Int) + (k : Int)) = (o : Int) + (k : Int) := wrap64 (by omega) (by omega)
          go_upto_region 11 with fail
          clear hW2
          have pl : P.length < 1000000 := by omega
          have z1 : (Value.agg #[.int .i64 0, .string ⟨#[]⟩, .bool false]).cells.size = 3 := by rfl
          have z2 : ∀ u ∈ ([.int .i64 ((o : Int) + (k : Int)), .string ⟨t.toArray⟩, .bool q] : List Value), u.oneCell' = true := by simp [Value.oneCell']
          have z3 : P.length + 1 ≤ maxLen := by unfold maxLen; omega
          have z4 : w.heap.size ≤ (W2.alloc (.cells #[.int .i64 ((o : Int) + (k : Int)), .string ⟨t.toArray⟩, .bool q] 47)).heap.size := by have := hB2.size; simp; omega
          have z5 := (b2.alloc (.cells #[.int .i64 ((o : Int) + (k : Int)), .string ⟨t.toArray⟩, .bool q] 47)).not_row (by decide) (hrow2.alloc (.cells #[.int .i64 ((o : Int) + (k : Int)), .string ⟨t.toArray⟩, .bool q] 47))
          go_wp2_with (at_builtin; refine wpList_append_own _ rfl _ _ 43 rfl w.heap.size 47 i0 (.agg #[.int .i64 0, .string ⟨#[]⟩, .bool false]) 3 32 Tryd.underlying43 hi hz0 hz1 hz2 z1 (by decide) _ _ _ rfl (hrow2.alloc _) ⟨W2.heap.size, 0, none⟩ 1 1 [.int .i64 ((o : Int) + (k : Int)), .string ⟨t.toArray⟩, .bool q] rfl rfl (cell_news W2 _ _) z2 z3 (by omega) z4 ?_; intro v' w3 hown' hgrow _; obtain ⟨g, cc, rfl, hg1, hg2⟩ := hown'.form (by omega); have b2' := (b2.alloc (.cells #[.int .i64 ((o : Int) + (k : Int)), .string ⟨t.toArray⟩, .bool q] 47)).kept hgrow z5; have x0 := b2'.cells2.1; have x1 := b2'.cells2.2; have fz := b2'.free 1)
          have b0' := (b0.alloc (.cells #[.int .i64 ((o : Int) + (k : Int)), .string ⟨t.toArray⟩, .bool q] 47)).kept hgrow ((b0.alloc (.cells #[.int .i64 ((o : Int) + (k : Int)), .string ⟨t.toArray⟩, .bool q] 47)).not_row (by decide) (hrow2.alloc (.cells #[.int .i64 ((o : Int) + (k : Int)), .string ⟨t.toArray⟩, .bool q] 47)))
          have b1' := (b1.alloc (.cells #[.int .i64 ((o : Int) + (k : Int)), .string ⟨t.toArray⟩, .bool q] 47)).kept hgrow ((b1.alloc (.cells #[.int .i64 ((o : Int) + (k : Int)), .string ⟨t.toArray⟩, .bool q] 47)).not_row (by decide) (hrow2.alloc (.cells #[.int .i64 ((o : Int) + (k : Int)), .string ⟨t.toArray⟩, .bool q] 47)))
          have hB3 := below_grownR (hB2.alloc hB2.size _) z4 hgrow (fun r hr => ((hrow2.alloc (.cells #[.int .i64 ((o : Int) + (k : Int)), .string ⟨t.toArray⟩, .bool q] 47)).lt r hr).1)
          go_roundw
          case rel =>
            refine ⟨k + n, P ++ [⟨((o + k : Nat) : Int), t, q⟩], some ⟨g, 0, none⟩, cc, by omega, by go_num, by rw [List.length_append]; exact Nat.add_le_add hP (by show 1 ≤ n; omega), hnext, b0'.other _ (by show w.heap.size + 1 + 1 ≠ _; omega) _, b1'.other _ (by show w.heap.size + 1 + 1 ≠ _; omega) _, ?_, ?_, hB3.setCell (p := ⟨w.heap.size + 1 + 1, 1, none⟩) (by show _ ≤ w.heap.size + 1 + 1; omega) _⟩
            · have := b2'.set 1 (.slice (some ⟨g, 0, none⟩) (P.length + 1) cc)
              rw [List.length_append]
              exact this
            · rw [List.length_append, wdsC_append, wdsC_one]
              have e : wdC ⟨((o + k : Nat) : Int), t, q⟩ = [.int .i64 ((o : Int) + (k : Int)), .string ⟨t.toArray⟩, .bool q] := by simp [wdC]
              rw [e]
              exact own_store hown' b2' (by decide) 1 _
          case measure => simp [intOf]; omega
    · have HBL : Hid (blN y = true) := Lib.hid (by rw [hbl, hq])
      rw [hq, if_pos rfl] at hstep
      have hnext : Hid (accR P (rowL (o + (k + 1)) (l.drop (k + 1))) = R) := Lib.hid (by rw [← hst.out, hstep]; rfl)
      clear hst hstep hbl hdr hwl
      go_wp2_with fail
      refine (refBlank_any y hy2 _).mono ?_
      rintro e w' ⟨rfl, rfl⟩
      rw [HBL.out]
      go_wp2_with fail
      go_roundw
      case rel => exact ⟨k + 1, P, p, c, by omega, by go_num, by omega, hnext, b0, b1, b2, hrow, hB⟩
      case measure => simp [intOf]; omega
  · obtain rfl : k = l.length := by omega
    have d1 : decide ((l.length : Int) < (l.length : Int)) = false := decide_eq_false (by omega)
    have hres : Hid (R = .inr P) := Lib.hid (by rw [← hst.out, List.drop_length, rowL_nil]; show Sum.inr (P ++ []) = _; rw [List.append_nil])
    clear hst
    obtain ⟨c0, c1⟩ := b2.cells2
    obtain ⟨a0, a1⟩ := b0.cells2
    obtain ⟨e0, e1⟩ := b1.cells2
    have f00 := b0.free 0
    have f01 := b0.free 1
    have f10 := b1.free 0
    have f11 := b1.free 1
    go_wp2_with fail
    obtain ⟨q1, q2, q3, q4⟩ := row_fin b0 b1 hrow hB (.int .i64 (o : Int)) (.slice p P.length c) (.int .i64 0) (.int .i64 0)
    exact bodyPost_ret (row_results q1 q2 rfl _ rfl rfl) rfl ⟨by rw [hres.out]; exact ⟨_, rfl, q3⟩, q4⟩
end Go.Proofs.YtacceiloggnekaaDoor
