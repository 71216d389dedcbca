/-
  The reference's Rows for every text.
-/
import Derived.Test.YtacceiloggnekaaDoorRRowsF
namespace Go.Proofs.YtacceiloggnekaaDoor
open Go.RowKit
attribute [local go_sem] ba_get
attribute [local go_sem] takes
theorem infoR : (Tryd.prog.info? 45).map (fun i => (i.zero, i.size, i.bytes)) = some (some (.agg #[.int .i64 0, .slice none 0 0]), 2, 32) := by kernel_rfl
/-- What Rows answers. -/
def RowsPost (R : (Nat × Nat) ⊕ List Rw) (e : Ending) (w' : World) : Prop :=
  match R with
  | .inl x => e = .returned (.tuple #[.slice none 0 0, .agg #[.int .i64 (x.1 : Int), .int .i64 (x.2 : Int)]])
  | .inr rs => ∃ v, e = .returned (.tuple #[v, .agg #[.int .i64 0, .int .i64 0]]) ∧ RowsAt w' v rs
/-- What the reference's Rows answers: its rows lie in memory of its own. -/
def RowsPostO (w : World) (R : (Nat × Nat) ⊕ List Rw) (e : Ending) (w' : World) : Prop :=
  match R with
  | .inl x => e = .returned (.tuple #[.slice none 0 0, .agg #[.int .i64 (x.1 : Int), .int .i64 (x.2 : Int)]])
  | .inr rs => ∃ v cs, e = .returned (.tuple #[v, .agg #[.int .i64 0, .int .i64 0]]) ∧ w'.ownsRow w.heap.size 45 2 v rs.length cs ∧ RowCsO w' w.heap.size cs rs
theorem RowsPostO.plain {w : World} {R : (Nat × Nat) ⊕ List Rw} {e : Ending} {w' : World} (h : RowsPostO w R e w') : RowsPost R e w' := by
  cases R with
  | inl x => exact h
  | inr rs =>
    obtain ⟨v, cs, h1, h2, h3⟩ := h
    exact ⟨v, h1, rows_of_own h2 h3.plain⟩
theorem rows_results {w : World} {C : Nat} {c d : Value} (h2 : CBlk 26 w C [c, d]) {fn : Func} {p n : Tmp} (h : fn.results = #[.tmp p, .cell n 26]) (tmps : Array Value) (v : Value)
    (hp : tmps.getD p undef = v) (hn : tmps.getD n undef = .pointer (some ⟨C, 0, none⟩)) : (Go.results fn tmps).run Tryd.prog w = .ok (.tuple #[v, .agg #[c, d]]) w := by
  have hp' : tmps[p]?.getD undef = v := by simpa using hp
  have hn' : tmps[n]?.getD undef = .pointer (some ⟨C, 0, none⟩) := by simpa using hn
  obtain ⟨d0, d1⟩ := h2.cells2
  simp [Go.results, h, hp', hn', asAddr, go_sem, d0, d1]
/-- Stores into a block of another type keep rows of one's own. -/
theorem RowCsO.store {w : World} {base : Nat} {cs : List Value} {rs : List Rw} {t : TypeId} {B : Nat} {xs : List Value} (h : RowCsO w base cs rs) (hb : CBlk t w B xs) (hte : t ≠ 47) (i : Nat) (a : Value) : RowCsO (w.setCell ⟨B, i, none⟩ a) base cs rs :=
  h.kept fun _ _ _ h1 => own_store h1 hb hte i a
theorem RowCsO.belowR {w w' : World} {base : Nat} {cs : List Value} {rs : List Rw} (h : RowCsO w base cs rs) (hb : Below w.heap.size w w') : RowCsO w' base cs rs :=
  h.kept fun _ _ _ h1 => own_belowR h1 hb
theorem RowCsO.grown {w w' : World} {base : Nat} {cs : List Value} {rs : List Rw} {b2 : Nat} {e2 : TypeId} {s2 n2 : Nat} {v2 : Value} {x2 : List Value} (h : RowCsO w base cs rs) (h2 : w.ownsRow b2 e2 s2 v2 n2 x2) (hg : w.grownBy w' v2.ownBlock) (hne : 47 ≠ e2) : RowCsO w' base cs rs :=
  h.kept fun _ _ _ h1 => h1.kept hg (own_apart h1 h2 hne)
theorem own_slice {w : World} {base : Nat} {e : TypeId} {size n : Nat} {v : Value} {xs : List Value} (h : w.ownsRow base e size v n xs) : ∃ p c, v = .slice p n c := by
  rcases h.2 with ⟨rfl, rfl⟩ | ⟨g, cap, cur, rfl, _⟩
  · exact ⟨none, 0, rfl⟩
  · exact ⟨_, cap, rfl⟩
theorem own_mono {w : World} {base base' : Nat} {e : TypeId} {size n : Nat} {v : Value} {xs : List Value} (h : w.ownsRow base' e size v n xs) (hb : base ≤ base') : w.ownsRow base e size v n xs := by
  refine ⟨h.1, ?_⟩
  rcases h.2 with h | ⟨g, cap, cur, h1, h2, h3⟩
  · exact .inl h
  · exact .inr ⟨g, cap, cur, h1, Nat.le_trans hb h2, h3⟩
theorem rowS_length : ∀ (f o : Nat) (r : List UInt8) (ws : List Wd), rowS f o r = .inr ws → ws.length ≤ f
  | 0, _, _, ws, h => by cases h; exact Nat.le_refl _
  | f + 1, _, [], ws, h => by cases h; exact Nat.zero_le _
  | f + 1, o, c :: r, ws, h => by
    unfold rowS at h
    split at h
    · exact Nat.le_succ_of_le (rowS_length f _ _ ws h)
    · split at h
      · cases h; exact Nat.zero_le _
      · split at h
        · cases h
        · cases hr : rowS f (o + (wordS (c :: r)).2.2) ((c :: r).drop (wordS (c :: r)).2.2) with
          | inl p => rw [hr] at h; cases h
          | inr ws' =>
            rw [hr] at h
            cases h
            have := rowS_length f _ _ ws' hr
            simpa using this
theorem rowL_length (o : Nat) (r : List UInt8) (ws : List Wd) (h : rowL o r = .inr ws) : ws.length ≤ r.length := rowS_length _ _ _ _ h
set_option maxRecDepth 100000 in
set_option maxHeartbeats 8000000 in
theorem refRows_own (l : List UInt8) (hl : l.length < 900000) (w : World) :
    Calls Tryd.prog 12 #[.string ⟨l.toArray⟩] w fun e w' => RowsPostO w (rowsL l) e w' ∧ Below w.heap.size w w' := by
  obtain ⟨i0, hi, hz0, hz1, hz2⟩ := info_parts infoR
  have r0 := CBlk.new 26 w [.int .i64 0, .int .i64 0]
  have hB0 : Below w.heap.size w (w.alloc (.cells #[.int .i64 0, .int .i64 0] 26)) := by go_grown
  by_cases hbig : 20000 < l.length
  · have HR : Hid (rowsL l = .inl (4, 20000)) := Lib.hid (by unfold rowsL; rw [if_pos hbig])
    have d0 : decide ((20000 : Int) < (l.length : Int)) = true := decide_eq_true (by omega)
    go_enter Tryd.func12, Tryd.ntmps12
    go_wp2_with fail
    exact bodyPost_ret (rows_results (CBlk.new 26 w [.int .i64 4, .int .i64 20000]) rfl _ _ rfl rfl) rfl ⟨by rw [HR.out]; rfl, by go_grown⟩
  · obtain ⟨R, hR⟩ : ∃ R, rowsL l = R := ⟨_, rfl⟩
    rw [hR]
    have HR : Hid (rowsG 0 l = R) := Lib.hid (by rw [← hR]; unfold rowsL; rw [if_neg hbig])
    have d0 : decide ((20000 : Int) < (l.length : Int)) = false := decide_eq_false (by omega)
    have d0n : decide (20000 < l.length) = false := decide_eq_false hbig
    clear hR
    go_enter Tryd.func12, Tryd.ntmps12
    go_wp2_with fail
    go_loopw [4, 5] (fun v i wr => ∃ (k : Nat) (P : List Rw) (cs : List Value) (p : Option Addr) (c : Nat), k ≤ l.length + 1 ∧ i = .int .i64 k ∧ v = .slice p P.length c ∧ P.length ≤ k ∧ Hid (accRs P (rowsG k (l.drop k)) = R) ∧
        CBlk 26 wr w.heap.size [.int .i64 0, .int .i64 0] ∧ RowCsO wr w.heap.size cs P ∧ wr.ownsRow w.heap.size 45 2 (.slice p P.length c) P.length cs ∧ Below w.heap.size w wr) (fun _ i _ => l.length + 1 - (intOf i).toNat)
    case atStart =>
      exact ⟨0, [], [], none, 0, Nat.zero_le _, rfl, rfl, Nat.le_refl _, Lib.hid (by rw [List.drop_zero, accRs_nil]; exact HR.out), r0, trivial, World.ownsRow_nil _ _ _ _, hB0⟩
    case round =>
    clear r0 hB0
    obtain ⟨k, P, cs, p, c, hk, rfl, rfl, hP, hst, b0, hcs, hrow, hB⟩ := hrel
    by_cases hlt : k < l.length
    · have d1 : decide ((k : Int) < (l.length : Int)) = true := decide_eq_true (by omega)
      have hb2 : (k : Int) < (l.length : Int) := by omega
      have hne : l.drop k ≠ [] := by intro e; have := congrArg List.length e; simp at this; omega
      have hstep := rowsG_step k (l.drop k) hne
      rw [List.drop_drop] at hstep
      have hnl := lineN_le (l.drop k)
      rw [List.length_drop] at hnl
      obtain ⟨n, hn⟩ : ∃ n, lineN (l.drop k) = n := ⟨_, rfl⟩
      rw [hn] at hstep hnl
      have HN := Lib.hid hn
      clear hn hne
      go_wp2_with fail
      go_loopw [6] (fun i wx => ∃ m : Nat, m ≤ n ∧ i = .int .i64 ((k + m : Nat) : Int) ∧ Hid (lineN (l.drop (k + m)) + m = n) ∧ wr = wx) (fun i _ => l.length + 1 - (intOf i).toNat)
      case atStart => exact ⟨0, Nat.zero_le _, by rw [Nat.add_zero], Lib.hid (by rw [Nat.add_zero, Nat.add_zero]; exact HN.out), rfl⟩
      case round =>
      obtain ⟨m, hm, rfl, hnn, rfl⟩ := hrel
      obtain ⟨j, hj⟩ : ∃ j, k + m = j := ⟨_, rfl⟩
      rw [hj] at hnn ⊢
      by_cases hlt2 : j < l.length
      · have d2 : decide ((j : Int) < (l.length : Int)) = true := decide_eq_true (by omega)
        have hb3 : (j : Int) < (l.length : Int) := by omega
        have hat := lineN_at hlt2
        obtain ⟨z, hz⟩ : ∃ z, l[j] = z := ⟨_, rfl⟩
        obtain ⟨y, hy⟩ : ∃ y, z.toNat = y := ⟨_, rfl⟩
        rw [hz, hy] at hat
        by_cases h10 : y = 10
        · have d3 : ((y : Int) != 10) = false := by subst h10; rfl
          obtain rfl : m = n := by have := hnn.out; rw [hat, if_pos h10] at this; omega
          clear hat
          have hjk : k + m = j := by omega
          have hsub : IntKind.i64.wrap ((j : Int) - (k : Int)) = (m : Int) := by rw [show (j : Int) - (k : Int) = (m : Int) by omega]; exact wrap64 (by omega) (by omega)
          have hsub2 : (j : Int) - (k : Int) = (m : Int) := by omega
          clear hnn
          by_cases hth : 1000 < m
          · have hres : Hid (R = .inl (4, k)) := Lib.hid (by rw [← hst.out, hstep, if_pos hth]; rfl)
            have d4 : decide ((1000 : Int) < (m : Int)) = true := decide_eq_true (by omega)
            have d4n : decide (1000 < m) = true := decide_eq_true hth
            obtain ⟨e0, e1⟩ := b0.cells2
            have f00 := b0.free 0
            have f01 := b0.free 1
            clear hst hstep
            go_wp2_with fail
            have q1 := b0.store2 rfl (.int .i64 4) (.int .i64 (k : Int))
            exact bodyPost_ret (rows_results q1 rfl _ _ rfl rfl) rfl ⟨by rw [hres.out]; rfl, below_store2 hB (Nat.le_refl _) _ _⟩
          · rw [if_neg hth] at hstep
            have d4 : decide ((1000 : Int) < (m : Int)) = false := decide_eq_false (by omega)
            have d4n : decide (1000 < m) = false := decide_eq_false hth
            have hex : (ByteArray.mk l.toArray).extract k j = ⟨((l.drop k).take m).toArray⟩ := by rw [← hjk]; exact takes l k m
            have hkj : (k : Int) ≤ (j : Int) := by omega
            have hjl : (j : Int) ≤ (l.length : Int) := by omega
            obtain ⟨L, hL⟩ : ∃ L, (l.drop k).take m = L := ⟨_, rfl⟩
            have hLl : L.length < 1000000 := by rw [← hL, List.length_take]; omega
            rw [hL] at hex hstep
            clear hL
            have hrw := fun W => refRow_any L hLl k (by omega) W
            cases hrl : rowL k L with
            | inl p' =>
              rw [hrl] at hstep hrw
              have hres : Hid (R = .inl (3, p')) := Lib.hid (by rw [← hst.out, hstep]; rfl)
              have HRW := Lib.hid hrw
              clear hst hstep hrl hrw
              go_wp2_with fail
              refine (HRW.out _).mono ?_
              rintro e w1 ⟨rfl, hb⟩
              unfold rowErr
              have hB := hB.trans (hb.mono hB.size)
              have b0 := b0.below hb b0.lt
              have hsz := hB.size
              obtain ⟨W2, hW2⟩ : ∃ W2, (w1.alloc (.cells #[.int .i64 0, .slice none 0 0] 45)).alloc (.cells #[.int .i64 3, .int .i64 (p' : Int)] 26) = W2 := ⟨_, rfl⟩
              have b0 : CBlk 26 W2 w.heap.size [.int .i64 0, .int .i64 0] := by rw [← hW2]; exact (b0.alloc _).alloc _
              have bf : CBlk 26 W2 (w1.heap.size + 1) [.int .i64 3, .int .i64 (p' : Int)] := by
                rw [← hW2]
                have := CBlk.new 26 (w1.alloc (.cells #[.int .i64 0, .slice none 0 0] 45)) [.int .i64 3, .int .i64 (p' : Int)]
                rw [World.size_alloc] at this
                exact this
              have hB : Below w.heap.size w W2 := by rw [← hW2]; exact (hB.alloc hB.size _).alloc (by simp; omega) _
              obtain ⟨e0, e1⟩ := b0.cells2
              obtain ⟨g0, g1⟩ := bf.cells2
              have f00 := b0.free 0
              have f01 := b0.free 1
              have HW2 := Lib.hid hW2
              clear hb hW2
              go_upto_region 12 with fail
              rw [HW2.out]
              clear HW2
              go_wp2_with fail
              go_region
              all_goals
                go_wp2_with fail
                exact bodyPost_ret (rows_results (b0.store2 rfl (.int .i64 3) (.int .i64 (p' : Int))).drew rfl _ _ rfl rfl) rfl ⟨by rw [hres.out]; rfl, (below_store2 hB (Nat.le_refl _) _ _).drew⟩
            | inr ws =>
              rw [hrl] at hstep hrw
              have HST : Hid (accRs (if ws.length = 0 then P else P ++ [⟨(k : Int), ws⟩]) (rowsG (k + m + 1) (l.drop (k + (m + 1)))) = R) := Lib.hid (by rw [← accRs_cons, ← hst.out, hstep]; rfl)
              have HRW := Lib.hid hrw
              have hwl := rowL_length k L ws hrl
              clear hst hstep hrl hrw
              go_wp2_with fail
              refine (HRW.out _).mono ?_
              rintro e w1 ⟨⟨v, rfl, hv⟩, hb⟩
              obtain ⟨pv, cv, rfl⟩ := own_slice hv
              unfold rowOk
              have hv := own_mono hv hB.size
              have hB := hB.trans (hb.mono hB.size)
              have b0 := b0.below hb b0.lt
              have hcs := hcs.belowR hb
              have hrow := own_belowR hrow hb
              have hsz := hB.size
              obtain ⟨W2, hW2⟩ : ∃ W2, (w1.alloc (.cells #[.int .i64 (k : Int), .slice pv ws.length cv] 45)).alloc (.cells #[.int .i64 0, .int .i64 0] 26) = W2 := ⟨_, rfl⟩
              have b0 : CBlk 26 W2 w.heap.size [.int .i64 0, .int .i64 0] := by rw [← hW2]; exact (b0.alloc _).alloc _
              have br : CBlk 45 W2 w1.heap.size [.int .i64 (k : Int), .slice pv ws.length cv] := by rw [← hW2]; exact (CBlk.new 45 w1 [.int .i64 (k : Int), .slice pv ws.length cv]).alloc _
              have bf : CBlk 26 W2 (w1.heap.size + 1) [.int .i64 0, .int .i64 0] := by
                rw [← hW2]
                have := CBlk.new 26 (w1.alloc (.cells #[.int .i64 (k : Int), .slice pv ws.length cv] 45)) [.int .i64 0, .int .i64 0]
                rw [World.size_alloc] at this
                exact this
              have hB : Below w.heap.size w W2 := by rw [← hW2]; exact (hB.alloc hB.size _).alloc (by simp; omega) _
              have hcs : RowCsO W2 w.heap.size cs P := by rw [← hW2]; exact hcs.kept fun _ _ _ h1 => (h1.alloc _).alloc _
              have hrow : W2.ownsRow w.heap.size 45 2 (.slice p P.length c) P.length cs := by rw [← hW2]; exact (hrow.alloc _).alloc _
              have hv : W2.ownsRow w.heap.size 47 3 (.slice pv ws.length cv) ws.length (wdsC ws) := by rw [← hW2]; exact (hv.alloc _).alloc _
              obtain ⟨g0, g1⟩ := bf.cells2
              obtain ⟨x0, x1⟩ := br.cells2
              have HW2 := Lib.hid hW2
              clear hb hW2
              go_upto_region 12 with fail
              rw [HW2.out]
              clear HW2
              by_cases hw0 : ws.length = 0
              · have hnext : Hid (accRs P (rowsG (k + m + 1) (l.drop (k + m + 1))) = R) := Lib.hid (by rw [← HST.out, if_pos hw0]; rfl)
                have d5 : decide ((0 : Int) < (ws.length : Int)) = false := decide_eq_false (by omega)
                have d5n : decide (0 < ws.length) = false := decide_eq_false (by omega)
                have q5 : IntKind.i64.wrap ((j : Int) + 1) = (j : Int) + 1 := wrap64 (by omega) (by omega)
                go_wp2_with fail
                go_roundw
                case rel => exact ⟨k + m + 1, P, cs, p, c, by omega, by go_num, rfl, by omega, hnext, b0, hcs, hrow, hB⟩
                case measure => simp [intOf]; omega
              · have hnext : Hid (accRs (P ++ [⟨(k : Int), ws⟩]) (rowsG (k + m + 1) (l.drop (k + m + 1))) = R) := Lib.hid (by rw [← HST.out, if_neg hw0]; rfl)
                have d5 : decide ((0 : Int) < (ws.length : Int)) = true := decide_eq_true (by omega)
                have d5p : 0 < ws.length := by omega
                have d5n : decide (0 < ws.length) = true := decide_eq_true d5p
                have q5 : IntKind.i64.wrap ((j : Int) + 1) = (j : Int) + 1 := wrap64 (by omega) (by omega)
                have z1 : (Value.agg #[.int .i64 0, .slice none 0 0]).cells.size = 2 := by rfl
                have z2 : ∀ u ∈ ([.int .i64 (k : Int), .slice pv ws.length cv] : List Value), u.oneCell' = true := by simp [Value.oneCell']
                have z3 : P.length + 1 ≤ maxLen := by unfold maxLen; omega
                have hsz2 := hB.size
                have z4 : w.heap.size ≤ (W2.alloc (.cells #[.int .i64 (k : Int), .slice pv ws.length cv] 45)).heap.size := by simp; omega
                have z5 : (P.length + 1) * 32 ≤ 140737488355328 := by omega
                have hrow2 := hrow.alloc (.cells #[.int .i64 (k : Int), .slice pv ws.length cv] 45)
                go_wp2_with (at_builtin; refine wpList_append_own _ rfl _ _ 23 rfl w.heap.size 45 i0 (.agg #[.int .i64 0, .slice none 0 0]) 2 32 Tryd.underlying23 hi hz0 hz1 hz2 z1 (by decide) _ _ _ rfl hrow2 ⟨W2.heap.size, 0, none⟩ 1 1 [.int .i64 (k : Int), .slice pv ws.length cv] rfl rfl (cell_news W2 _ _) z2 z3 z5 z4 ?_; intro v' w3 hown' hgrow _; obtain ⟨g, cc, rfl, hg1, hg2⟩ := hown'.form (by omega))
                have b0' := (b0.alloc (.cells #[.int .i64 (k : Int), .slice pv ws.length cv] 45)).kept hgrow ((b0.alloc (.cells #[.int .i64 (k : Int), .slice pv ws.length cv] 45)).not_row (by decide) hrow2)
                have hcs' := RowCsO.grown (hcs.kept fun _ _ _ h1 => h1.alloc (.cells #[.int .i64 (k : Int), .slice pv ws.length cv] 45)) hrow2 hgrow (by decide)
                have hv' := (hv.alloc (.cells #[.int .i64 (k : Int), .slice pv ws.length cv] 45)).kept hgrow (own_apart (hv.alloc _) hrow2 (by decide))
                have hB3 := below_grownR (hB.alloc hB.size _) z4 hgrow (fun r hr => (hrow2.lt r hr).1)
                go_roundw
                case rel =>
                  refine ⟨k + m + 1, P ++ [⟨(k : Int), ws⟩], cs ++ [.int .i64 (k : Int), .slice pv ws.length cv], some ⟨g, 0, none⟩, cc, by omega, by go_num, by rw [List.length_append]; rfl, by rw [List.length_append]; show P.length + 1 ≤ _; omega, hnext, b0', RowCsO.snoc (r := ⟨(k : Int), ws⟩) hv' hcs', ?_, hB3⟩
                  rw [List.length_append]
                  exact hown'
                case measure => simp [intOf]; omega
        · have d3 : ((y : Int) != 10) = true := by rw [bne_iff_ne]; omega
          rw [if_neg h10] at hat
          have hnext : Hid (lineN (l.drop (j + 1)) + (m + 1) = n) := Lib.hid (by rw [← hnn.out, hat]; omega)
          have hmn : m + 1 ≤ n := by have := hnext.out; omega
          clear hat h10
          go_wp2_with fail
          go_roundw
          case rel => exact ⟨m + 1, hmn, by rw [← hj]; go_num, by rw [show k + (m + 1) = j + 1 by omega]; exact hnext, trivial⟩
          case measure => simp [intOf]; omega
      · have d2 : decide ((j : Int) < (l.length : Int)) = false := decide_eq_false (by omega)
        obtain rfl : m = n := by have := hnn.out; rw [List.drop_eq_nil_of_le (by omega)] at this; simpa [lineN] using this
        have hjk : k + m = j := by omega
        have hsub : IntKind.i64.wrap ((j : Int) - (k : Int)) = (m : Int) := by rw [show (j : Int) - (k : Int) = (m : Int) by omega]; exact wrap64 (by omega) (by omega)
        have hsub2 : (j : Int) - (k : Int) = (m : Int) := by omega
        clear hnn
        by_cases hth : 1000 < m
        · have hres : Hid (R = .inl (4, k)) := Lib.hid (by rw [← hst.out, hstep, if_pos hth]; rfl)
          have d4 : decide ((1000 : Int) < (m : Int)) = true := decide_eq_true (by omega)
          have d4n : decide (1000 < m) = true := decide_eq_true hth
          obtain ⟨e0, e1⟩ := b0.cells2
          have f00 := b0.free 0
          have f01 := b0.free 1
          clear hst hstep
          go_wp2_with fail
          have q1 := b0.store2 rfl (.int .i64 4) (.int .i64 (k : Int))
          exact bodyPost_ret (rows_results q1 rfl _ _ rfl rfl) rfl ⟨by rw [hres.out]; rfl, below_store2 hB (Nat.le_refl _) _ _⟩
        · rw [if_neg hth] at hstep
          have d4 : decide ((1000 : Int) < (m : Int)) = false := decide_eq_false (by omega)
          have d4n : decide (1000 < m) = false := decide_eq_false hth
          have hex : (ByteArray.mk l.toArray).extract k j = ⟨((l.drop k).take m).toArray⟩ := by rw [← hjk]; exact takes l k m
          have hkj : (k : Int) ≤ (j : Int) := by omega
          have hjl : (j : Int) ≤ (l.length : Int) := by omega
          obtain ⟨L, hL⟩ : ∃ L, (l.drop k).take m = L := ⟨_, rfl⟩
          have hLl : L.length < 1000000 := by rw [← hL, List.length_take]; omega
          rw [hL] at hex hstep
          clear hL
          have hrw := fun W => refRow_any L hLl k (by omega) W
          cases hrl : rowL k L with
          | inl p' =>
            rw [hrl] at hstep hrw
            have hres : Hid (R = .inl (3, p')) := Lib.hid (by rw [← hst.out, hstep]; rfl)
            have HRW := Lib.hid hrw
            clear hst hstep hrl hrw
            go_wp2_with fail
            refine (HRW.out _).mono ?_
            rintro e w1 ⟨rfl, hb⟩
            unfold rowErr
            have hB := hB.trans (hb.mono hB.size)
            have b0 := b0.below hb b0.lt
            have hsz := hB.size
            obtain ⟨W2, hW2⟩ : ∃ W2, (w1.alloc (.cells #[.int .i64 0, .slice none 0 0] 45)).alloc (.cells #[.int .i64 3, .int .i64 (p' : Int)] 26) = W2 := ⟨_, rfl⟩
            have b0 : CBlk 26 W2 w.heap.size [.int .i64 0, .int .i64 0] := by rw [← hW2]; exact (b0.alloc _).alloc _
            have bf : CBlk 26 W2 (w1.heap.size + 1) [.int .i64 3, .int .i64 (p' : Int)] := by
              rw [← hW2]
              have := CBlk.new 26 (w1.alloc (.cells #[.int .i64 0, .slice none 0 0] 45)) [.int .i64 3, .int .i64 (p' : Int)]
              rw [World.size_alloc] at this
              exact this
            have hB : Below w.heap.size w W2 := by rw [← hW2]; exact (hB.alloc hB.size _).alloc (by simp; omega) _
            obtain ⟨e0, e1⟩ := b0.cells2
            obtain ⟨g0, g1⟩ := bf.cells2
            have f00 := b0.free 0
            have f01 := b0.free 1
            have HW2 := Lib.hid hW2
            clear hb hW2
            go_upto_region 12 with fail
            rw [HW2.out]
            clear HW2
            go_wp2_with fail
            go_region
            all_goals
              go_wp2_with fail
              exact bodyPost_ret (rows_results (b0.store2 rfl (.int .i64 3) (.int .i64 (p' : Int))).drew rfl _ _ rfl rfl) rfl ⟨by rw [hres.out]; rfl, (below_store2 hB (Nat.le_refl _) _ _).drew⟩
          | inr ws =>
            rw [hrl] at hstep hrw
            have HST : Hid (accRs (if ws.length = 0 then P else P ++ [⟨(k : Int), ws⟩]) (rowsG (k + m + 1) (l.drop (k + (m + 1)))) = R) := Lib.hid (by rw [← accRs_cons, ← hst.out, hstep]; rfl)
            have HRW := Lib.hid hrw
            have hwl := rowL_length k L ws hrl
            clear hst hstep hrl hrw
            go_wp2_with fail
            refine (HRW.out _).mono ?_
            rintro e w1 ⟨⟨v, rfl, hv⟩, hb⟩
            obtain ⟨pv, cv, rfl⟩ := own_slice hv
            unfold rowOk
            have hv := own_mono hv hB.size
            have hB := hB.trans (hb.mono hB.size)
            have b0 := b0.below hb b0.lt
            have hcs := hcs.belowR hb
            have hrow := own_belowR hrow hb
            have hsz := hB.size
            obtain ⟨W2, hW2⟩ : ∃ W2, (w1.alloc (.cells #[.int .i64 (k : Int), .slice pv ws.length cv] 45)).alloc (.cells #[.int .i64 0, .int .i64 0] 26) = W2 := ⟨_, rfl⟩
            have b0 : CBlk 26 W2 w.heap.size [.int .i64 0, .int .i64 0] := by rw [← hW2]; exact (b0.alloc _).alloc _
            have br : CBlk 45 W2 w1.heap.size [.int .i64 (k : Int), .slice pv ws.length cv] := by rw [← hW2]; exact (CBlk.new 45 w1 [.int .i64 (k : Int), .slice pv ws.length cv]).alloc _
            have bf : CBlk 26 W2 (w1.heap.size + 1) [.int .i64 0, .int .i64 0] := by
              rw [← hW2]
              have := CBlk.new 26 (w1.alloc (.cells #[.int .i64 (k : Int), .slice pv ws.length cv] 45)) [.int .i64 0, .int .i64 0]
              rw [World.size_alloc] at this
              exact this
            have hB : Below w.heap.size w W2 := by rw [← hW2]; exact (hB.alloc hB.size _).alloc (by simp; omega) _
            have hcs : RowCsO W2 w.heap.size cs P := by rw [← hW2]; exact hcs.kept fun _ _ _ h1 => (h1.alloc _).alloc _
            have hrow : W2.ownsRow w.heap.size 45 2 (.slice p P.length c) P.length cs := by rw [← hW2]; exact (hrow.alloc _).alloc _
            have hv : W2.ownsRow w.heap.size 47 3 (.slice pv ws.length cv) ws.length (wdsC ws) := by rw [← hW2]; exact (hv.alloc _).alloc _
            obtain ⟨g0, g1⟩ := bf.cells2
            obtain ⟨x0, x1⟩ := br.cells2
            have HW2 := Lib.hid hW2
            clear hb hW2
            go_upto_region 12 with fail
            rw [HW2.out]
            clear HW2
            by_cases hw0 : ws.length = 0
            · have hnext : Hid (accRs P (rowsG (k + m + 1) (l.drop (k + m + 1))) = R) := Lib.hid (by rw [← HST.out, if_pos hw0]; rfl)
              have d5 : decide ((0 : Int) < (ws.length : Int)) = false := decide_eq_false (by omega)
              have d5n : decide (0 < ws.length) = false := decide_eq_false (by omega)
              have q5 : IntKind.i64.wrap ((j : Int) + 1) = (j : Int) + 1 := wrap64 (by omega) (by omega)
              go_wp2_with fail
              go_roundw
              case rel => exact ⟨k + m + 1, P, cs, p, c, by omega, by go_num, rfl, by omega, hnext, b0, hcs, hrow, hB⟩
              case measure => simp [intOf]; omega
            · have hnext : Hid (accRs (P ++ [⟨(k : Int), ws⟩]) (rowsG (k + m + 1) (l.drop (k + m + 1))) = R) := Lib.hid (by rw [← HST.out, if_neg hw0]; rfl)
              have d5 : decide ((0 : Int) < (ws.length : Int)) = true := decide_eq_true (by omega)
              have d5p : 0 < ws.length := by omega
              have d5n : decide (0 < ws.length) = true := decide_eq_true d5p
              have q5 : IntKind.i64.wrap ((j : Int) + 1) = (j : Int) + 1 := wrap64 (by omega) (by omega)
              have z1 : (Value.agg #[.int .i64 0, .slice none 0 0]).cells.size = 2 := by rfl
              have z2 : ∀ u ∈ ([.int .i64 (k : Int), .slice pv ws.length cv] : List Value), u.oneCell' = true := by simp [Value.oneCell']
              have z3 : P.length + 1 ≤ maxLen := by unfold maxLen; omega
              have hsz2 := hB.size
              have z4 : w.heap.size ≤ (W2.alloc (.cells #[.int .i64 (k : Int), .slice pv ws.length cv] 45)).heap.size := by simp; omega
              have z5 : (P.length + 1) * 32 ≤ 140737488355328 := by omega
              have hrow2 := hrow.alloc (.cells #[.int .i64 (k : Int), .slice pv ws.length cv] 45)
              go_wp2_with (at_builtin; refine wpList_append_own _ rfl _ _ 23 rfl w.heap.size 45 i0 (.agg #[.int .i64 0, .slice none 0 0]) 2 32 Tryd.underlying23 hi hz0 hz1 hz2 z1 (by decide) _ _ _ rfl hrow2 ⟨W2.heap.size, 0, none⟩ 1 1 [.int .i64 (k : Int), .slice pv ws.length cv] rfl rfl (cell_news W2 _ _) z2 z3 z5 z4 ?_; intro v' w3 hown' hgrow _; obtain ⟨g, cc, rfl, hg1, hg2⟩ := hown'.form (by omega))
              have b0' := (b0.alloc (.cells #[.int .i64 (k : Int), .slice pv ws.length cv] 45)).kept hgrow ((b0.alloc (.cells #[.int .i64 (k : Int), .slice pv ws.length cv] 45)).not_row (by decide) hrow2)
              have hcs' := RowCsO.grown (hcs.kept fun _ _ _ h1 => h1.alloc (.cells #[.int .i64 (k : Int), .slice pv ws.length cv] 45)) hrow2 hgrow (by decide)
              have hv' := (hv.alloc (.cells #[.int .i64 (k : Int), .slice pv ws.length cv] 45)).kept hgrow (own_apart (hv.alloc _) hrow2 (by decide))
              have hB3 := below_grownR (hB.alloc hB.size _) z4 hgrow (fun r hr => (hrow2.lt r hr).1)
              go_roundw
              case rel =>
                refine ⟨k + m + 1, P ++ [⟨(k : Int), ws⟩], cs ++ [.int .i64 (k : Int), .slice pv ws.length cv], some ⟨g, 0, none⟩, cc, by omega, by go_num, by rw [List.length_append]; rfl, by rw [List.length_append]; show P.length + 1 ≤ _; omega, hnext, b0', RowCsO.snoc (r := ⟨(k : Int), ws⟩) hv' hcs', ?_, hB3⟩
                rw [List.length_append]
                exact hown'
              case measure => simp [intOf]; omega
    · have d1 : decide ((k : Int) < (l.length : Int)) = false := decide_eq_false (by omega)
      have hres : Hid (R = .inr P) := Lib.hid (by rw [← hst.out, List.drop_eq_nil_of_le (by omega), rowsG_nil]; show Sum.inr (P ++ []) = _; rw [List.append_nil])
      clear hst
      obtain ⟨e0, e1⟩ := b0.cells2
      have f00 := b0.free 0
      have f01 := b0.free 1
      go_wp2_with fail
      have q1 := b0.store2 rfl (.int .i64 0) (.int .i64 0)
      have hcs2 := (hcs.store b0 (by decide) 0 (.int .i64 0)).store (b0.set 0 (.int .i64 0)) (by decide) 1 (.int .i64 0)
      have hrow2 := own_store2 hrow b0 (by decide) (.int .i64 0) (.int .i64 0)
      exact bodyPost_ret (rows_results q1 rfl _ _ rfl rfl) rfl ⟨by rw [hres.out]; exact ⟨_, _, rfl, hrow2, hcs2⟩, below_store2 hB (Nat.le_refl _) _ _⟩
theorem refRows_any (l : List UInt8) (hl : l.length < 900000) (w : World) :
    Calls Tryd.prog 12 #[.string ⟨l.toArray⟩] w fun e w' => RowsPost (rowsL l) e w' ∧ Below w.heap.size w w' :=
  (refRows_own l hl w).mono fun _ _ ⟨h1, h2⟩ => ⟨h1.plain, h2⟩
end Go.Proofs.YtacceiloggnekaaDoor
