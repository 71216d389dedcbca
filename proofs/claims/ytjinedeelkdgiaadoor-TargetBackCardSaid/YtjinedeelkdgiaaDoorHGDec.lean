/-
  The reference's Decode for every text: what it says, or where the first fault is.
-/
import Derived.Test.YtjinedeelkdgiaaDoorHOwn
namespace Go.Proofs.YtjinedeelkdgiaaDoor
open Go.RowKit
attribute [local go_sem] ba_get
/-- What Decode returns, as a value. -/
def decV : Except Nat (List UInt8) → Value
  | .ok t => .tuple #[.string ⟨t.toArray⟩, .agg #[.int .i64 0, .int .i64 0]]
  | .error i => .tuple #[.string ⟨#[]⟩, .agg #[.int .i64 3, .int .i64 (i : Int)]]
/-- A block that holds a fault. -/
def FBlk (w : World) (B : Nat) (e i : Int) : Prop := w.heap[B]? = some (.cells #[.int .i64 e, .int .i64 i] 97 (0, 0))
theorem FBlk.lt {w : World} {B : Nat} {e i : Int} (h : FBlk w B e i) : B < w.heap.size := lt_of_block h
theorem FBlk.cells {w : World} {B : Nat} {e i : Int} (h : FBlk w B e i) : w.cell? ⟨B, 0, none⟩ = some (.int .i64 e) ∧ w.cell? ⟨B, 1, none⟩ = some (.int .i64 i) ∧ w.frozen? ⟨B, 0, none⟩ = false ∧ w.frozen? ⟨B, 1, none⟩ = false := by
  unfold FBlk at h
  refine ⟨?_, ?_, ?_, ?_⟩ <;> simp [World.cell?, World.frozen?, h]
theorem FBlk.new0 (w : World) : FBlk (w.alloc (.cells #[.int .i64 0, .int .i64 0] 97)) w.heap.size 0 0 := heap_alloc_new w _
theorem FBlk.alloc {w : World} {B : Nat} {e i : Int} (h : FBlk w B e i) (o : Obj) : FBlk (w.alloc o) B e i := (Below.heap_alloc _ _ _ h.lt).trans h
theorem FBlk.drew {w : World} {B : Nat} {e i : Int} (h : FBlk w B e i) : FBlk w.drew B e i := h
theorem FBlk.kept {W W' : World} {row : Option Nat} {B : Nat} {e i : Int} (h : FBlk W B e i) (hg : W.grownBy W' row) (hne : some B ≠ row) : FBlk W' B e i := (hg.block B h.lt hne).trans h
theorem FBlk.not_row {W : World} {B : Nat} {t : TypeId} {e i : Int} (h : FBlk W B e i) (hte : 97 ≠ t) {base size k : Nat} {v : Value} {xs : List Value} (hr : W.ownsRow base t size v k xs) : some B ≠ v.ownBlock := by
  rcases hr.2 with ⟨rfl, _⟩ | ⟨g, cap, cur, rfl, _, hgb, _⟩
  · simp [Value.ownBlock]
  · intro e'
    obtain rfl : B = g := by simpa [Value.ownBlock] using e'
    have := (show W.heap[B]? = _ from h).symm.trans hgb
    simp at this
    exact hte this.2
theorem FBlk.set0 {w : World} {B : Nat} {e0 i0 : Int} (h : FBlk w B e0 i0) (e : Int) : FBlk (w.setCell ⟨B, 0, none⟩ (.int .i64 e)) B e i0 := by
  have hlt := h.lt
  unfold FBlk at h ⊢
  have h' : w.heap[B] = .cells #[.int .i64 e0, .int .i64 i0] 97 (0, 0) := by simpa [Array.getElem?_eq_getElem hlt] using h
  show (w.heap.modify B _)[B]? = _
  rw [Array.getElem?_eq_getElem (by simpa using hlt), Array.getElem_modify_self, h']
  rfl
theorem FBlk.set1 {w : World} {B : Nat} {e0 i0 : Int} (h : FBlk w B e0 i0) (i : Int) : FBlk (w.setCell ⟨B, 1, none⟩ (.int .i64 i)) B e0 i := by
  have hlt := h.lt
  unfold FBlk at h ⊢
  have h' : w.heap[B] = .cells #[.int .i64 e0, .int .i64 i0] 97 (0, 0) := by simpa [Array.getElem?_eq_getElem hlt] using h
  show (w.heap.modify B _)[B]? = _
  rw [Array.getElem?_eq_getElem (by simpa using hlt), Array.getElem_modify_self, h']
  rfl
theorem FBlk.store {w : World} {B : Nat} {e0 i0 : Int} (h : FBlk w B e0 i0) (e i : Int) : FBlk ((w.setCell ⟨B, 0, none⟩ (.int .i64 e)).setCell ⟨B, 1, none⟩ (.int .i64 i)) B e i := (h.set0 e).set1 i
theorem FBlk.results {w : World} {B : Nat} {e i : Int} (hb : FBlk w B e i) {fn : Func} {p q : Tmp} (h : fn.results = #[.tmp p, .cell q 97]) (tmps : Array Value)
    (v : Value) (hp : tmps.getD p undef = v) (hq : tmps.getD q undef = .pointer (some ⟨B, 0, none⟩)) : (Go.results fn tmps).run Tryd.prog w = .ok (.tuple #[v, .agg #[.int .i64 e, .int .i64 i]]) w := by
  have hp' : tmps[p]?.getD undef = v := by simpa using hp
  have hq' : tmps[q]?.getD undef = .pointer (some ⟨B, 0, none⟩) := by simpa using hq
  obtain ⟨c0, c1, -, -⟩ := hb.cells
  simp [Go.results, h, hp', hq', asAddr, go_sem, c0, c1]
theorem FBlk.belowStore {w wr : World} {B n : Nat} (hB : Below n w wr) (h : n ≤ B) (u v : Value) : Below n w ((wr.setCell ⟨B, 0, none⟩ u).setCell ⟨B, 1, none⟩ v) := (hB.setCell (p := ⟨B, 0, none⟩) h _).setCell (p := ⟨B, 1, none⟩) h _
def addO (o : List UInt8) : Except Nat (List UInt8) → Except Nat (List UInt8) := Except.map (o ++ ·)
theorem addO_map (o : List UInt8) (c : UInt8) (r : Except Nat (List UInt8)) : addO o (r.map (c :: ·)) = addO (o ++ [c]) r := by
  cases r with
  | error e => rfl
  | ok t => show Except.ok _ = Except.ok _; simp
set_option maxHeartbeats 4000000 in
theorem refDecode_any (l : List UInt8) (hl : l.length < 1000000) (w : World) :
    Calls Tryd.prog 61 #[.string ⟨l.toArray⟩] w fun e w' => e = .returned (decV (decL l 0)) ∧ Below w.heap.size w w' := by
  obtain ⟨i0, hi, hz0, hz1, hz2⟩ := info_parts info5
  obtain ⟨R, hR⟩ : ∃ R, decL l 0 = R := ⟨_, rfl⟩
  rw [hR]
  go_enter Tryd.func61, Tryd.ntmps61
  go_wp2_with fail
  go_loopw [4, 5] (fun v i wr => ∃ (k : Nat) (o : List UInt8), k ≤ l.length ∧ i = .int .i64 k ∧ Hid (addO o (decL (l.drop k) k) = R) ∧ o.length ≤ k ∧ wr.ownsRow (w.heap.size + 1) 5 1 v o.length (o.map encU) ∧ FBlk wr w.heap.size 0 0 ∧ Below w.heap.size w wr ∧ w.heap.size < wr.heap.size)
    (fun _ i _ => l.length - (intOf i).toNat)
  case atStart =>
    refine ⟨0, [], Nat.zero_le _, rfl, Lib.hid ?_, Nat.le_refl _, World.ownsRow_nil _ _ _ _, FBlk.new0 w, by go_grown, by simp⟩
    rw [List.drop_zero, hR]
    cases R <;> rfl
  case round =>
    obtain ⟨k, o, hk, rfl, hp, hol, hrow, a0, hB, hlt0⟩ := hrel
    by_cases hlt : k < l.length
    · have h1 : decide ((k : Int) < (l.length : Int)) = true := decide_eq_true (by omega)
      have hb2 : (k : Int) < (l.length : Int) := by omega
      cases he : escB (l.drop k)
      · have HE := Lib.hid he
        have HS : Hid (stepB (l.drop k) = 1) := Lib.hid (by unfold stepB; rw [he]; rfl)
        have hstep := List.drop_eq_getElem_cons hlt
        obtain ⟨z, hz⟩ : ∃ z, l[k] = z := ⟨_, rfl⟩
        rw [hz] at hstep
        rw [hstep] at he
        have hp2 := hp.out
        rw [hstep] at hp2
        obtain ⟨y, hy⟩ : ∃ y, z.toNat = y := ⟨_, rfl⟩
        by_cases h37 : y = 37
        · have hz37 : z = 37 := UInt8.toNat_inj.1 (by rw [hy, h37]; rfl)
          rw [hz37] at he hp2
          have hres : Hid (R = .error k) := Lib.hid (by rw [← hp2, decL_bad k he]; rfl)
          subst h37
          clear hz37 he hp2 hstep hp
          obtain ⟨c0, c1, f0, f1⟩ := a0.cells
          go_wp2_with fail
          refine (escape_any l hl k hlt _).mono ?_
          rintro e w' ⟨rfl, rfl⟩
          rw [HE.out]
          go_wp2_with fail
          exact bodyPost_ret ((a0.store 3 k).results rfl _ _ rfl rfl) rfl ⟨by rw [hres.out]; rfl, FBlk.belowStore hB (Nat.le_refl _) _ _⟩
        · have hz37 : z ≠ 37 := fun e => h37 (by rw [← hy, e]; rfl)
          have hnext : Hid (addO (o ++ [z]) (decL (l.drop (k + 1)) (k + 1)) = R) := Lib.hid (by rw [← addO_map, ← decL_plain k hz37]; exact hp2)
          have hy39 : ((y : Int) == 37) = false := by rw [beq_eq_false_iff_ne]; omega
          have hy40 : (y == 37) = false := by rw [beq_eq_false_iff_ne]; omega
          clear hz37 he hp2 hstep hp
          go_wp2_with fail
          refine (escape_any l hl k hlt _).mono ?_
          rintro e w' ⟨rfl, rfl⟩
          rw [HE.out]
          go_wp2_with (at_builtin; refine wpList_append_own _ rfl _ _ 43 rfl (w.heap.size + 1) 5 i0 (.int .u8 0) 1 1 Tryd.underlying43 hi hz0 hz1 hz2 rfl (by decide) _ _ _ rfl (hrow.alloc _) ⟨wr.heap.size, 0, none⟩ 1 1 [.int .u8 y] rfl rfl (cell_one_new _ _ _) (by simp [Value.oneCell']) (by unfold maxLen; omega) (by omega) (by simp; omega) ?_; intro v' w1 hown' hgrow _)
          refine (step_any l hl k hlt _).mono ?_
          rintro e w' ⟨rfl, rfl⟩
          rw [HS.out]
          go_wp2_with fail
          go_roundw
          case rel =>
            have hz1 := hgrow.size
            simp only [World.size_alloc] at hz1
            refine ⟨k + 1, o ++ [z], by omega, by go_num, hnext, by simp; omega, ?_, (a0.alloc _).kept hgrow (a0.not_row (by decide) hrow), below_grown (hB.alloc hB.size _) (by simp; omega) hgrow (own_ge hrow _ (by omega)), by omega⟩
            simpa [encU, hy] using hown'
          case measure => simp [intOf]; omega
      · have HE := Lib.hid he
        have HS : Hid (stepB (l.drop k) = 3) := Lib.hid (by unfold stepB; rw [he]; rfl)
        have h3 : k + 2 < l.length := by
          apply Classical.byContradiction
          intro hn
          rw [escB_short (by omega)] at he
          cases he
        have hnext : Hid (addO (o ++ [escV (l.drop k)]) (decL (l.drop (k + 3)) (k + 3)) = R) := Lib.hid (by rw [← addO_map, ← List.drop_drop, ← decL_esc k he]; exact hp.out)
        have hE2 := escB_at h3
        rw [he] at hE2
        have hE3 := Bool.and_eq_true_iff.1 hE2.symm
        have x1 := (Bool.and_eq_true_iff.1 hE3.1).2
        have x2 := hE3.2
        have hV : escV (l.drop k) = UInt8.ofNat (16 * hexB l[k + 1] + hexB l[k + 2]) := by rw [drop3 h3]; rfl
        have V1 := valI_hex x1
        have V2 := valI_hex x2
        have g1 := hexB_lt l[k + 1]
        have g2 := hexB_lt l[k + 2]
        obtain ⟨v1, hv1⟩ : ∃ v, hexB l[k + 1] = v := ⟨_, rfl⟩
        obtain ⟨v2, hv2⟩ : ∃ v, hexB l[k + 2] = v := ⟨_, rfl⟩
        obtain ⟨y1, hy1⟩ : ∃ y, (l[k + 1]).toNat = y := ⟨_, rfl⟩
        obtain ⟨y2, hy2⟩ : ∃ y, (l[k + 2]).toNat = y := ⟨_, rfl⟩
        have l1 : y1 < 256 := by rw [← hy1]; exact UInt8.toNat_lt _
        have l2 : y2 < 256 := by rw [← hy2]; exact UInt8.toNat_lt _
        rw [hy1, hv1] at V1
        rw [hy2, hv2] at V2
        rw [hv1, hv2] at hV
        rw [hv1] at g1
        rw [hv2] at g2
        have V1 := Lib.hid V1
        have V2 := Lib.hid V2
        have HV := Lib.hid hV
        have q1 : IntKind.i64.wrap ((k : Int) + 1) = ((k + 1 : Nat) : Int) := (IntWalk.i64_in _ (by omega)).trans (by omega)
        have q2 : IntKind.i64.wrap ((k : Int) + 2) = ((k + 2 : Nat) : Int) := (IntWalk.i64_in _ (by omega)).trans (by omega)
        have b1 : ((k + 1 : Nat) : Int) < (l.length : Int) := by omega
        have b2 : ((k + 2 : Nat) : Int) < (l.length : Int) := by omega
        have b3 : (k : Int) + 1 < (l.length : Int) := by omega
        have b4 : (k : Int) + 2 < (l.length : Int) := by omega
        have b5 : 0 ≤ (k : Int) + 1 := by omega
        have b7 : ((k : Int) + 2).toNat = k + 2 := by omega
        have b8 : ((k : Int) + 1).toNat = k + 1 := by omega
        have b6 : 0 ≤ (k : Int) + 2 := by omega
        have q3 : IntKind.i64.wrap (16 * (v1 : Int)) = 16 * (v1 : Int) := IntWalk.i64_in _ (by omega)
        have q4 : IntKind.i64.wrap (16 * (v1 : Int) + (v2 : Int)) = ((16 * v1 + v2 : Nat) : Int) := (IntWalk.i64_in _ (by omega)).trans (by omega)
        have q5 : IntKind.u8.wrap ((16 * v1 + v2 : Nat) : Int) = ((16 * v1 + v2 : Nat) : Int) := by rw [IntKind.wrap_u8']; omega
        clear he hE2 hE3 x1 x2 hV hv1 hv2 hp
        go_upto_region 6 with fail
        go_wp2_with (go_at_call 87; refine (escape_any l hl k hlt _).mono ?_; rintro e w' ⟨rfl, rfl⟩; rw [HE.out])
        refine wp_region_noPanic ?_
        refine wp_region_held_drew (S := fun _ => True) (by kernel_rfl) ?_ (fun hHeld => ?_)
        focus ((try dsimp only); all_goals trivial)
        try simp only [Act.put, List.setIfInBounds_toArray, List.set_cons_zero, List.set_cons_succ]
        refine wpAnyH_take (i := 0) (oi := { dst := some 25, op := Go.Op.move (Go.Operand.tmp 4), type := 43, pos := "ref.go:43", after := #[], guard := none }) (v := ?_) rfl (by kernel_rfl) (by kernel_rfl) (by kernel_rfl) (fun _ _ _ h => h) (Or.inl ⟨by rfl, ?_⟩) (by assumption) ?_
        rotate_left
        focus ((intro w hSw; (try dsimp only at hSw); go_simp) <;> (with_reducible rfl))
        try simp only [Act.put, List.setIfInBounds_toArray, List.set_cons_zero, List.set_cons_succ]
        refine wpAnyH_take (i := 1) (oi := { dst := some 26, op := Go.Op.move (Go.Operand.tmp 0), type := 9, pos := "ref.go:43", after := #[], guard := none }) (v := ?_) rfl (by kernel_rfl) (by kernel_rfl) (by kernel_rfl) (fun _ _ _ h => h) (Or.inl ⟨by rfl, ?_⟩) (by assumption) ?_
        rotate_left
        focus ((intro w hSw; (try dsimp only at hSw); go_simp) <;> (with_reducible rfl))
        try simp only [Act.put, List.setIfInBounds_toArray, List.set_cons_zero, List.set_cons_succ]
        refine wpAnyH_take (i := 2) (oi := { dst := some 27, op := Go.Op.move (Go.Operand.tmp 5), type := 3, pos := "ref.go:43", after := #[], guard := none }) (v := ?_) rfl (by kernel_rfl) (by kernel_rfl) (by kernel_rfl) (fun _ _ _ h => h) (Or.inl ⟨by rfl, ?_⟩) (by assumption) ?_
        rotate_left
        focus ((intro w hSw; (try dsimp only at hSw); go_simp) <;> (with_reducible rfl))
        try simp only [Act.put, List.setIfInBounds_toArray, List.set_cons_zero, List.set_cons_succ]
        refine wpAnyH_take (i := 3) (oi := { dst := some 28, op := Go.Op.binOp Go.BinOp.add 3 (Go.Operand.tmp 27) (Go.Operand.const (Go.Value.int Go.IntKind.i64 1)) 3, type := 3, pos := "ref.go:43", after := #[{ on := 2, ground := Go.Ground.data }], guard := none }) (v := ?_) rfl (by kernel_rfl) (by kernel_rfl) (by kernel_rfl) (fun _ _ _ h => h) (Or.inl ⟨by rfl, ?_⟩) (by assumption) ?_
        rotate_left
        focus ((intro w hSw; (try dsimp only at hSw); go_simp) <;> (with_reducible rfl))
        try simp only [Act.put, List.setIfInBounds_toArray, List.set_cons_zero, List.set_cons_succ]
        refine wpAnyH_take (i := 4) (oi := { dst := some 29, op := Go.Op.index 9 (Go.Operand.tmp 26) (Go.Operand.tmp 28), type := 5, pos := "ref.go:43", after := #[{ on := 1, ground := Go.Ground.data }, { on := 3, ground := Go.Ground.data }], guard := none }) (v := ?_) rfl (by kernel_rfl) (by kernel_rfl) (by kernel_rfl) (fun _ _ _ h => h) (Or.inl ⟨by rfl, ?_⟩) (by assumption) ?_
        rotate_left
        focus ((intro w hSw; (try dsimp only at hSw); go_simp) <;> (with_reducible rfl))
        try simp only [Act.put, List.setIfInBounds_toArray, List.set_cons_zero, List.set_cons_succ]
        refine wpAnyH_take (i := 7) (oi := { dst := some 32, op := Go.Op.move (Go.Operand.tmp 0), type := 9, pos := "ref.go:43", after := #[], guard := none }) (v := ?_) rfl (by kernel_rfl) (by kernel_rfl) (by kernel_rfl) (fun _ _ _ h => h) (Or.inl ⟨by rfl, ?_⟩) (by assumption) ?_
        rotate_left
        focus ((intro w hSw; (try dsimp only at hSw); go_simp) <;> (with_reducible rfl))
        try simp only [Act.put, List.setIfInBounds_toArray, List.set_cons_zero, List.set_cons_succ]
        refine wpAnyH_take (i := 8) (oi := { dst := some 33, op := Go.Op.move (Go.Operand.tmp 5), type := 3, pos := "ref.go:43", after := #[], guard := none }) (v := ?_) rfl (by kernel_rfl) (by kernel_rfl) (by kernel_rfl) (fun _ _ _ h => h) (Or.inl ⟨by rfl, ?_⟩) (by assumption) ?_
        rotate_left
        focus ((intro w hSw; (try dsimp only at hSw); go_simp) <;> (with_reducible rfl))
        try simp only [Act.put, List.setIfInBounds_toArray, List.set_cons_zero, List.set_cons_succ]
        refine wpAnyH_take (i := 9) (oi := { dst := some 34, op := Go.Op.binOp Go.BinOp.add 3 (Go.Operand.tmp 33) (Go.Operand.const (Go.Value.int Go.IntKind.i64 2)) 3, type := 3, pos := "ref.go:43", after := #[{ on := 8, ground := Go.Ground.data }], guard := none }) (v := ?_) rfl (by kernel_rfl) (by kernel_rfl) (by kernel_rfl) (fun _ _ _ h => h) (Or.inl ⟨by rfl, ?_⟩) (by assumption) ?_
        rotate_left
        focus ((intro w hSw; (try dsimp only at hSw); go_simp) <;> (with_reducible rfl))
        try simp only [Act.put, List.setIfInBounds_toArray, List.set_cons_zero, List.set_cons_succ]
        refine wpAnyH_take (i := 10) (oi := { dst := some 35, op := Go.Op.index 9 (Go.Operand.tmp 32) (Go.Operand.tmp 34), type := 5, pos := "ref.go:43", after := #[{ on := 7, ground := Go.Ground.data }, { on := 9, ground := Go.Ground.data }], guard := none }) (v := ?_) rfl (by kernel_rfl) (by kernel_rfl) (by kernel_rfl) (fun _ _ _ h => h) (Or.inl ⟨by rfl, ?_⟩) (by assumption) ?_
        rotate_left
        focus ((intro w hSw; (try dsimp only at hSw); go_simp) <;> (with_reducible rfl))
        try simp only [Act.put, List.setIfInBounds_toArray, List.set_cons_zero, List.set_cons_succ]
        refine wpAnyH_ready (rs := [5]) (by kernel_rfl) (by simp) ?_
        refine AllReadyH.cons (o := { dst := some 30, op := Go.Op.call { callee := Go.Callee.value (Go.Operand.func 88), args := #[Go.Operand.tmp 29], argTypes := #[5] }, type := 3, pos := "ref.go:43", after := #[{ on := 4, ground := Go.Ground.data }], guard := none }) rfl (fun K hK => ?_) AllReadyH.nil
        go_simp
        (go_at_call 88; refine (value_any y1 l1 _).mono ?_; rintro e w' ⟨rfl, rfl⟩; rw [V1.out])
        first | (go_wp2_with fail) | skip
        refine hK.out _ _ ?_ (fun hNew => ?_)
        focus ((try dsimp only); all_goals trivial)
        clear hK K hHeld
        have hHeld := hNew
        clear hNew
        try simp only [Act.put, List.setIfInBounds_toArray, List.set_cons_zero, List.set_cons_succ]
        refine wpAnyH_take (i := 6) (oi := { dst := some 31, op := Go.Op.binOp Go.BinOp.mul 3 (Go.Operand.const (Go.Value.int Go.IntKind.i64 16)) (Go.Operand.tmp 30) 3, type := 3, pos := "ref.go:43", after := #[{ on := 5, ground := Go.Ground.data }], guard := none }) (v := ?_) rfl (by kernel_rfl) (by kernel_rfl) (by kernel_rfl) (fun _ _ _ h => h) (Or.inl ⟨by rfl, ?_⟩) (by assumption) ?_
        rotate_left
        focus ((intro w hSw; (try dsimp only at hSw); go_simp) <;> (with_reducible rfl))
        try simp only [Act.put, List.setIfInBounds_toArray, List.set_cons_zero, List.set_cons_succ]
        refine wpAnyH_ready (rs := [11]) (by kernel_rfl) (by simp) ?_
        refine AllReadyH.cons (o := { dst := some 36, op := Go.Op.call { callee := Go.Callee.value (Go.Operand.func 88), args := #[Go.Operand.tmp 35], argTypes := #[5] }, type := 3, pos := "ref.go:43", after := #[{ on := 10, ground := Go.Ground.data }, { on := 5, ground := Go.Ground.chain }], guard := none }) rfl (fun K hK => ?_) AllReadyH.nil
        go_simp
        (go_at_call 88; refine (value_any y2 l2 _).mono ?_; rintro e w' ⟨rfl, rfl⟩; rw [V2.out])
        first | (go_wp2_with fail) | skip
        refine hK.out _ _ ?_ (fun hNew => ?_)
        focus ((try dsimp only); all_goals trivial)
        clear hK K hHeld
        have hHeld := hNew
        clear hNew
        try simp only [Act.put, List.setIfInBounds_toArray, List.set_cons_zero, List.set_cons_succ]
        refine wpAnyH_take (i := 12) (oi := { dst := some 37, op := Go.Op.binOp Go.BinOp.add 3 (Go.Operand.tmp 31) (Go.Operand.tmp 36) 3, type := 3, pos := "ref.go:43", after := #[{ on := 6, ground := Go.Ground.data }, { on := 11, ground := Go.Ground.data }], guard := none }) (v := ?_) rfl (by kernel_rfl) (by kernel_rfl) (by kernel_rfl) (fun _ _ _ h => h) (Or.inl ⟨by rfl, ?_⟩) (by assumption) ?_
        rotate_left
        focus ((intro w hSw; (try dsimp only at hSw); go_simp) <;> (with_reducible rfl))
        try simp only [Act.put, List.setIfInBounds_toArray, List.set_cons_zero, List.set_cons_succ]
        refine wpAnyH_take (i := 13) (oi := { dst := some 38, op := Go.Op.convert 3 5 (Go.Operand.tmp 37), type := 5, pos := "ref.go:43", after := #[{ on := 12, ground := Go.Ground.data }], guard := none }) (v := ?_) rfl (by kernel_rfl) (by kernel_rfl) (by kernel_rfl) (fun _ _ _ h => h) (Or.inl ⟨by rfl, ?_⟩) (by assumption) ?_
        rotate_left
        focus ((intro w hSw; (try dsimp only at hSw); go_simp) <;> (with_reducible rfl))
        try simp only [Act.put, List.setIfInBounds_toArray, List.set_cons_zero, List.set_cons_succ]
        refine wpAnyH_ready (rs := [14]) (by kernel_rfl) (by simp) ?_
        refine AllReadyH.cons (o := { dst := some 39, op := Go.Op.buildSlice 43 1 #[(0, Go.Operand.tmp 38)], type := 43, pos := "ref.go:43", after := #[{ on := 13, ground := Go.Ground.data }], guard := none }) rfl (fun K hK => ?_) AllReadyH.nil
        go_simp
        refine hK.out _ _ ?_ (fun hNew => ?_)
        focus ((try dsimp only); all_goals trivial)
        clear hK K hHeld
        have hHeld := hNew
        clear hNew
        try simp only [Act.put, List.setIfInBounds_toArray, List.set_cons_zero, List.set_cons_succ]
        refine wpAnyH_ready (rs := [15]) (by kernel_rfl) (by simp) ?_
        refine AllReadyH.cons (o := { dst := some 40, op := Go.Op.call { callee := Go.Callee.builtin Go.Builtin.append, args := #[Go.Operand.tmp 25, Go.Operand.tmp 39], argTypes := #[43, 43] }, type := 43, pos := "ref.go:43", after := #[{ on := 0, ground := Go.Ground.data }, { on := 14, ground := Go.Ground.data }, { on := 11, ground := Go.Ground.chain }], guard := none }) rfl (fun K hK => ?_) AllReadyH.nil
        (refine step_append_lies _ rfl _ _ 43 rfl (w.heap.size + 1) 5 i0 (.int .u8 0) 1 1 Tryd.underlying43 hi hz0 hz1 hz2 rfl (by decide) u4 o.length (o.map encU) rfl ((hrow.alloc _).drew) ⟨wr.heap.size, 0, none⟩ 1 1 [.int .u8 _] rfl rfl (World.news_of_block (heap_alloc_new wr _)) (by simp [Value.oneCell']) (by decide) (by unfold maxLen; omega) (by omega) (by simp; omega) _ rfl ?_; intro g cap w1 hown1 hgrow1 _ _)
        refine hK.out _ _ ?_ (fun hNew => ?_)
        focus ((try dsimp only); all_goals trivial)
        clear hK K hHeld
        have hHeld := hNew
        clear hNew
        try simp only [Act.put, List.setIfInBounds_toArray, List.set_cons_zero, List.set_cons_succ]
        refine wpAnyH_take (i := 16) (oi := { dst := some 4, op := Go.Op.assign (Go.Operand.tmp 40), type := 43, pos := "ref.go:43", after := #[{ on := 15, ground := Go.Ground.data }, { on := 15, ground := Go.Ground.chain }, { on := 0, ground := Go.Ground.phase }, { on := 1, ground := Go.Ground.phase }, { on := 2, ground := Go.Ground.phase }, { on := 3, ground := Go.Ground.phase }, { on := 4, ground := Go.Ground.phase }, { on := 5, ground := Go.Ground.phase }, { on := 6, ground := Go.Ground.phase }, { on := 7, ground := Go.Ground.phase }, { on := 8, ground := Go.Ground.phase }, { on := 9, ground := Go.Ground.phase }, { on := 10, ground := Go.Ground.phase }, { on := 11, ground := Go.Ground.phase }, { on := 12, ground := Go.Ground.phase }, { on := 13, ground := Go.Ground.phase }, { on := 14, ground := Go.Ground.phase }, { on := 15, ground := Go.Ground.phase }], guard := none }) (v := ?_) rfl (by kernel_rfl) (by kernel_rfl) (by kernel_rfl) (fun _ _ _ h => h) (Or.inl ⟨by rfl, ?_⟩) (by assumption) ?_
        rotate_left
        focus ((intro w hSw; (try dsimp only at hSw); go_simp) <;> (with_reducible rfl))
        try simp only [Act.put, List.setIfInBounds_toArray, List.set_cons_zero, List.set_cons_succ]
        refine wpAnyH_done (by kernel_rfl) ?_ _
        refine NoPanic.normal ?_
        go_wp2_with fail
        refine (step_any l hl k hlt _).mono ?_
        rintro e w' ⟨rfl, rfl⟩
        rw [HS.out]
        go_wp2_with fail
        go_roundw
        case rel =>
          have hz1 := hgrow1.size
          simp only [World.size_drew, World.size_alloc] at hz1
          refine ⟨k + 3, o ++ [escV (l.drop k)], by omega, by go_num, hnext, by simp; omega, ?_, (a0.alloc _).drew.kept hgrow1 (a0.not_row (by decide) hrow), below_grown (hB.alloc hB.size _).drew (by simp; omega) hgrow1 (own_ge hrow _ (by omega)), by omega⟩
          have e3 : IntKind.u8.wrap (16 * (v1 : Int) + (v2 : Int)) = ((16 * v1 + v2 : Nat) : Int) := by rw [IntKind.wrap_u8']; omega
          have e4 : encU (escV (l.drop k)) = .int .u8 ((16 * v1 + v2 : Nat) : Int) := by
            rw [HV.out]
            unfold encU
            congr 1
          rw [e3] at hown1
          rw [List.map_append, List.length_append]
          show World.ownsRow _ _ _ _ _ _ (_ ++ [encU _])
          rw [e4]
          exact hown1
        case measure => simp [intOf]; omega
    · obtain rfl : k = l.length := by omega
      have hcv := owned_text hrow
      have hres : Hid (R = .ok o) := Lib.hid (by rw [← hp.out, List.drop_length, decL_nil]; show Except.ok _ = _; simp)
      obtain ⟨c0, c1, f0, f1⟩ := a0.cells
      go_wp2_with fail
      exact bodyPost_ret ((a0.store 0 0).results rfl _ _ rfl rfl) rfl ⟨by rw [hres.out]; rfl, FBlk.belowStore hB (Nat.le_refl _) _ _⟩
end Go.Proofs.YtjinedeelkdgiaaDoor
