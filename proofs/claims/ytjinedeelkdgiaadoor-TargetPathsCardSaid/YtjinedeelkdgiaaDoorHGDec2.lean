/-
  percent.Decode for every text.
-/
import Derived.Test.YtjinedeelkdgiaaDoorHEnc2
import Derived.Test.YtjinedeelkdgiaaDoorHGDec
import Derived.WalkMore
namespace Go.Proofs.YtjinedeelkdgiaaDoor
open Go.RowKit
attribute [local go_sem] ba_get
def pairN (y1 y2 : Nat) : Nat → Nat | 0 => y1 | _ => y2
theorem value2 (y1 y2 : Nat) (l1 : y1 < 256) (l2 : y2 < 256) (W : World) :
    Calls Tryd.prog 95 #[.slice (some ⟨W.heap.size, 0, none⟩) 2 2] (W.alloc (.cells #[.int .u8 (y1 : Int), .int .u8 (y2 : Int)] 5)).drew fun e w' => e = .returned (valR (pairN y1 y2) 2) ∧ (W.alloc (.cells #[.int .u8 (y1 : Int), .int .u8 (y2 : Int)] 5)).drew = w' := by
  refine pvalue_any W.heap.size 0 2 2 (pairN y1 y2) (fun j hj => ?_) (by omega) _ (fun j hj => ?_)
  · match j with
    | 0 => exact l1
    | _ + 1 => exact l2
  · have hk : (W.alloc (.cells #[.int .u8 (y1 : Int), .int .u8 (y2 : Int)] 5)).drew.heap[W.heap.size]? = _ := heap_alloc_new W _
    rw [cell_of_row _ _ _ _ _ _ hk]
    match j, hj with
    | 0, _ => rfl
    | 1, _ => rfl
theorem valR_yes {y1 y2 : Nat} (h1 : (hexP y1).2 = true) (h2 : (hexP y2).2 = true) : valR (pairN y1 y2) 2 = .tuple #[.int .u8 ((16 * (hexP y1).1 + (hexP y2).1 : Nat) : Int), .bool true] := by
  have a := hexP_lt y1
  have b := hexP_lt y2
  have e : allHex (pairN y1 y2) 2 = true := by simp [allHex, pairN, h1, h2]
  have v : valTo (pairN y1 y2) 2 = 16 * (hexP y1).1 + (hexP y2).1 := by
    show (16 * ((16 * 0 + (hexP y1).1) % 256) + (hexP y2).1) % 256 = _
    omega
  unfold valR
  rw [if_pos e, v]
theorem valR_no {y1 y2 : Nat} (h : ((hexP y1).2 && (hexP y2).2) = false) : valR (pairN y1 y2) 2 = .tuple #[.int .u8 0, .bool false] := by
  have e : allHex (pairN y1 y2) 2 = false := by
    show ((true && (hexP y1).2) && (hexP y2).2) = false
    rw [Bool.true_and]; exact h
  unfold valR
  rw [e]; rfl
set_option maxHeartbeats 4000000 in
theorem decode_any (l : List UInt8) (hl : l.length < 1000000) (w : World) :
    Calls Tryd.prog 83 #[.string ⟨l.toArray⟩] w fun e w' => e = .returned (decV (decL l 0)) ∧ Below w.heap.size w w' := by
  obtain ⟨R, hR⟩ : ∃ R, decL l 0 = R := ⟨_, rfl⟩
  rw [hR]
  go_enter Tryd.func83, Tryd.ntmps83
  go_wp2_with fail
  go_step3
  go_wp2_with fail
  go_step3
  go_wp2_with fail
  go_loopw [5] (fun i wr => ∃ (k : Nat) (o : List UInt8), k ≤ l.length ∧ i = .int .i64 k ∧ Hid (addO o (decL (l.drop k) k) = R) ∧ o.length ≤ k ∧ BIs (w.heap.size + 1) (w.heap.size + 1) (Lib.byteCells o) wr ∧ FBlk wr w.heap.size 0 0 ∧ Below w.heap.size w wr)
    (fun i _ => l.length - (intOf i).toNat)
  case atStart =>
    have hb := Lib.fresh_isBuilder 82 5 (w.alloc (.cells #[.int .i64 0, .int .i64 0] 97))
    rw [World.size_alloc] at hb
    refine ⟨0, [], Nat.zero_le _, rfl, Lib.hid ?_, Nat.le_refl _, hb, (FBlk.new0 w).alloc _, by go_grown⟩
    rw [List.drop_zero, hR]
    cases R <;> rfl
  case round =>
    obtain ⟨k, o, hk, rfl, hp, hol, hrow, a0, hB⟩ := hrel
    have hwb := bis_lt hrow
    by_cases hlt : k < l.length
    · have h1 : decide ((k : Int) < (l.length : Int)) = true := decide_eq_true (by omega)
      have hb2 : (k : Int) < (l.length : Int) := by omega
      have hstep := List.drop_eq_getElem_cons hlt
      have hE2 := fun h3 => escB_at (l := l) (k := k) h3
      obtain ⟨z, hz⟩ : ∃ z, l[k] = z := ⟨_, rfl⟩
      rw [hz] at hstep
      simp only [hz] at hE2
      obtain ⟨y, hy⟩ : ∃ y, z.toNat = y := ⟨_, rfl⟩
      by_cases h37 : y = 37
      · have hz37 : z = 37 := UInt8.toNat_inj.1 (by rw [hy, h37]; rfl)
        subst h37
        rw [hz37] at hE2 hstep
        cases he : escB (l.drop k)
        · have hres : Hid (R = .error k) := Lib.hid (by rw [← hp.out, hstep, decL_bad k (by rw [← hstep]; exact he)]; rfl)
          by_cases h3 : k + 2 < l.length
          · have hE3 := hE2 h3
            rw [he] at hE3
            obtain ⟨y1, hy1⟩ : ∃ y, (l[k + 1]).toNat = y := ⟨_, rfl⟩
            obtain ⟨y2, hy2⟩ : ∃ y, (l[k + 2]).toNat = y := ⟨_, rfl⟩
            have l1 : y1 < 256 := by rw [← hy1]; exact UInt8.toNat_lt _
            have l2 : y2 < 256 := by rw [← hy2]; exact UInt8.toNat_lt _
            have HV := Lib.hid (valR_no (y1 := y1) (y2 := y2) (by rw [← hy1, ← hy2]; exact (by simpa using hE3.symm : (isHex l[k + 1] && isHex l[k + 2]) = false)))
            clear hE3 hE2 he hstep hp hz37
            have hd : decide ((3 : Int) ≤ (l.length : Int) - (k : Int)) = true := decide_eq_true (by omega)
            have q1 : IntKind.i64.wrap ((k : Int) + 1) = ((k + 1 : Nat) : Int) := (IntWalk.i64_in _ (by omega)).trans (by omega)
            have q2 : IntKind.i64.wrap ((k : Int) + 2) = ((k + 2 : Nat) : Int) := (IntWalk.i64_in _ (by omega)).trans (by omega)
            have b1 : ((k + 1 : Nat) : Int) < (l.length : Int) := by omega
            have b2 : ((k + 2 : Nat) : Int) < (l.length : Int) := by omega
            have b3 : (k : Int) + 1 < (l.length : Int) := by omega
            have b4 : (k : Int) + 2 < (l.length : Int) := by omega
            have b5 : 0 ≤ (k : Int) + 1 := by omega
            have b7 : ((k : Int) + 2).toNat = k + 2 := by omega
            have b8 : ((k : Int) + 1).toNat = k + 1 := by omega
            have b6 : 0 ≤ (k : Int) + 2 := by omega
            go_upto_region 8 with fail
            refine wp_region_noPanic ?_
            refine wp_region_held_drew (S := fun _ => True) (by kernel_rfl) ?_ (fun hHeld => ?_)
            focus ((try dsimp only); all_goals trivial)
            try simp only [Act.put, List.setIfInBounds_toArray, List.set_cons_zero, List.set_cons_succ]
            refine wpAnyH_take (i := 0) (oi := { dst := some 29, op := Go.Op.move (Go.Operand.tmp 0), type := 9, pos := "percent.go:43", after := #[], guard := none }) (v := ?_) rfl (by kernel_rfl) (by kernel_rfl) (by kernel_rfl) (fun _ _ _ h => h) (Or.inl ⟨by rfl, ?_⟩) (by assumption) ?_
            rotate_left
            focus ((intro w hSw; (try dsimp only at hSw); go_simp) <;> (with_reducible rfl))
            try simp only [Act.put, List.setIfInBounds_toArray, List.set_cons_zero, List.set_cons_succ]
            refine wpAnyH_take (i := 1) (oi := { dst := some 30, op := Go.Op.move (Go.Operand.tmp 5), type := 3, pos := "percent.go:43", after := #[], guard := none }) (v := ?_) rfl (by kernel_rfl) (by kernel_rfl) (by kernel_rfl) (fun _ _ _ h => h) (Or.inl ⟨by rfl, ?_⟩) (by assumption) ?_
            rotate_left
            focus ((intro w hSw; (try dsimp only at hSw); go_simp) <;> (with_reducible rfl))
            try simp only [Act.put, List.setIfInBounds_toArray, List.set_cons_zero, List.set_cons_succ]
            refine wpAnyH_take (i := 2) (oi := { dst := some 31, op := Go.Op.binOp Go.BinOp.add 3 (Go.Operand.tmp 30) (Go.Operand.const (Go.Value.int Go.IntKind.i64 1)) 3, type := 3, pos := "percent.go:43", after := #[{ on := 1, ground := Go.Ground.data }], guard := none }) (v := ?_) rfl (by kernel_rfl) (by kernel_rfl) (by kernel_rfl) (fun _ _ _ h => h) (Or.inl ⟨by rfl, ?_⟩) (by assumption) ?_
            rotate_left
            focus ((intro w hSw; (try dsimp only at hSw); go_simp) <;> (with_reducible rfl))
            try simp only [Act.put, List.setIfInBounds_toArray, List.set_cons_zero, List.set_cons_succ]
            refine wpAnyH_take (i := 3) (oi := { dst := some 32, op := Go.Op.index 9 (Go.Operand.tmp 29) (Go.Operand.tmp 31), type := 5, pos := "percent.go:43", after := #[{ on := 0, ground := Go.Ground.data }, { on := 2, ground := Go.Ground.data }], guard := none }) (v := ?_) rfl (by kernel_rfl) (by kernel_rfl) (by kernel_rfl) (fun _ _ _ h => h) (Or.inl ⟨by rfl, ?_⟩) (by assumption) ?_
            rotate_left
            focus ((intro w hSw; (try dsimp only at hSw); go_simp) <;> (with_reducible rfl))
            try simp only [Act.put, List.setIfInBounds_toArray, List.set_cons_zero, List.set_cons_succ]
            refine wpAnyH_take (i := 4) (oi := { dst := some 33, op := Go.Op.move (Go.Operand.tmp 0), type := 9, pos := "percent.go:43", after := #[], guard := none }) (v := ?_) rfl (by kernel_rfl) (by kernel_rfl) (by kernel_rfl) (fun _ _ _ h => h) (Or.inl ⟨by rfl, ?_⟩) (by assumption) ?_
            rotate_left
            focus ((intro w hSw; (try dsimp only at hSw); go_simp) <;> (with_reducible rfl))
            try simp only [Act.put, List.setIfInBounds_toArray, List.set_cons_zero, List.set_cons_succ]
            refine wpAnyH_take (i := 5) (oi := { dst := some 34, op := Go.Op.move (Go.Operand.tmp 5), type := 3, pos := "percent.go:43", after := #[], guard := none }) (v := ?_) rfl (by kernel_rfl) (by kernel_rfl) (by kernel_rfl) (fun _ _ _ h => h) (Or.inl ⟨by rfl, ?_⟩) (by assumption) ?_
            rotate_left
            focus ((intro w hSw; (try dsimp only at hSw); go_simp) <;> (with_reducible rfl))
            try simp only [Act.put, List.setIfInBounds_toArray, List.set_cons_zero, List.set_cons_succ]
            refine wpAnyH_take (i := 6) (oi := { dst := some 35, op := Go.Op.binOp Go.BinOp.add 3 (Go.Operand.tmp 34) (Go.Operand.const (Go.Value.int Go.IntKind.i64 2)) 3, type := 3, pos := "percent.go:43", after := #[{ on := 5, ground := Go.Ground.data }], guard := none }) (v := ?_) rfl (by kernel_rfl) (by kernel_rfl) (by kernel_rfl) (fun _ _ _ h => h) (Or.inl ⟨by rfl, ?_⟩) (by assumption) ?_
            rotate_left
            focus ((intro w hSw; (try dsimp only at hSw); go_simp) <;> (with_reducible rfl))
            try simp only [Act.put, List.setIfInBounds_toArray, List.set_cons_zero, List.set_cons_succ]
            refine wpAnyH_take (i := 7) (oi := { dst := some 36, op := Go.Op.index 9 (Go.Operand.tmp 33) (Go.Operand.tmp 35), type := 5, pos := "percent.go:43", after := #[{ on := 4, ground := Go.Ground.data }, { on := 6, ground := Go.Ground.data }], guard := none }) (v := ?_) rfl (by kernel_rfl) (by kernel_rfl) (by kernel_rfl) (fun _ _ _ h => h) (Or.inl ⟨by rfl, ?_⟩) (by assumption) ?_
            rotate_left
            focus ((intro w hSw; (try dsimp only at hSw); go_simp) <;> (with_reducible rfl))
            try simp only [Act.put, List.setIfInBounds_toArray, List.set_cons_zero, List.set_cons_succ]
            refine wpAnyH_ready (rs := [8]) (by kernel_rfl) (by simp) ?_
            refine AllReadyH.cons (o := { dst := some 37, op := Go.Op.buildSlice 43 2 #[(0, Go.Operand.tmp 32), (1, Go.Operand.tmp 36)], type := 43, pos := "percent.go:43", after := #[{ on := 3, ground := Go.Ground.data }, { on := 7, ground := Go.Ground.data }], guard := none }) rfl (fun K hK => ?_) AllReadyH.nil
            go_simp
            refine hK.out _ _ ?_ (fun hNew => ?_)
            focus ((try dsimp only); all_goals trivial)
            clear hK K hHeld
            have hHeld := hNew
            clear hNew
            try simp only [Act.put, List.setIfInBounds_toArray, List.set_cons_zero, List.set_cons_succ]
            refine wpAnyH_ready (rs := [9]) (by kernel_rfl) (by simp) ?_
            refine AllReadyH.cons (o := { dst := some 38, op := Go.Op.call { callee := Go.Callee.value (Go.Operand.func 95), args := #[Go.Operand.tmp 37], argTypes := #[43] }, type := 120, pos := "percent.go:43", after := #[{ on := 8, ground := Go.Ground.data }], guard := none }) rfl (fun K hK => ?_) AllReadyH.nil
            go_simp
            (go_at_call 95; refine (value2 y1 y2 l1 l2 wr).mono ?_; rintro e w' ⟨rfl, rfl⟩; rw [HV.out])
            first | (go_wp2_with fail) | skip
            refine hK.out _ _ ?_ (fun hNew => ?_)
            focus ((try dsimp only); all_goals trivial)
            clear hK K hHeld
            have hHeld := hNew
            clear hNew
            try simp only [Act.put, List.setIfInBounds_toArray, List.set_cons_zero, List.set_cons_succ]
            refine wpAnyH_take (i := 10) (oi := { dst := some 28, op := Go.Op.move (Go.Operand.tmp 38), type := 120, pos := "percent.go:43", after := #[{ on := 9, ground := Go.Ground.data }], guard := none }) (v := ?_) rfl (by kernel_rfl) (by kernel_rfl) (by kernel_rfl) (fun _ _ _ h => h) (Or.inl ⟨by rfl, ?_⟩) (by assumption) ?_
            rotate_left
            focus ((intro w hSw; (try dsimp only at hSw); go_simp) <;> (with_reducible rfl))
            try simp only [Act.put, List.setIfInBounds_toArray, List.set_cons_zero, List.set_cons_succ]
            refine wpAnyH_take (i := 11) (oi := { dst := some 39, op := Go.Op.extract (Go.Operand.tmp 28) 0, type := 5, pos := "percent.go:43", after := #[{ on := 10, ground := Go.Ground.data }], guard := none }) (v := ?_) rfl (by kernel_rfl) (by kernel_rfl) (by kernel_rfl) (fun _ _ _ h => h) (Or.inl ⟨by rfl, ?_⟩) (by assumption) ?_
            rotate_left
            focus ((intro w hSw; (try dsimp only at hSw); go_simp) <;> (with_reducible rfl))
            try simp only [Act.put, List.setIfInBounds_toArray, List.set_cons_zero, List.set_cons_succ]
            refine wpAnyH_take (i := 12) (oi := { dst := some 40, op := Go.Op.extract (Go.Operand.tmp 28) 1, type := 4, pos := "percent.go:43", after := #[{ on := 10, ground := Go.Ground.data }, { on := 13, ground := Go.Ground.gcOnly Go.Departure.lateStores }], guard := none }) (v := ?_) rfl (by kernel_rfl) (by kernel_rfl) (by kernel_rfl) (fun _ _ _ h => h) (Or.inl ⟨by rfl, ?_⟩) (by assumption) ?_
            rotate_left
            focus ((intro w hSw; (try dsimp only at hSw); go_simp) <;> (with_reducible rfl))
            try simp only [Act.put, List.setIfInBounds_toArray, List.set_cons_zero, List.set_cons_succ]
            refine wpAnyH_take (i := 13) (oi := { dst := some 6, op := Go.Op.assign (Go.Operand.tmp 39), type := 5, pos := "percent.go:43", after := #[{ on := 11, ground := Go.Ground.data }, { on := 9, ground := Go.Ground.chain }, { on := 0, ground := Go.Ground.phase }, { on := 1, ground := Go.Ground.phase }, { on := 2, ground := Go.Ground.phase }, { on := 3, ground := Go.Ground.phase }, { on := 4, ground := Go.Ground.phase }, { on := 5, ground := Go.Ground.phase }, { on := 6, ground := Go.Ground.phase }, { on := 7, ground := Go.Ground.phase }, { on := 8, ground := Go.Ground.phase }, { on := 9, ground := Go.Ground.phase }, { on := 10, ground := Go.Ground.phase }, { on := 11, ground := Go.Ground.phase }, { on := 12, ground := Go.Ground.textOnly Go.Departure.lateStores }], guard := none }) (v := ?_) rfl (by kernel_rfl) (by kernel_rfl) (by kernel_rfl) (fun _ _ _ h => h) (Or.inl ⟨by rfl, ?_⟩) (by assumption) ?_
            rotate_left
            focus ((intro w hSw; (try dsimp only at hSw); go_simp) <;> (with_reducible rfl))
            try simp only [Act.put, List.setIfInBounds_toArray, List.set_cons_zero, List.set_cons_succ]
            refine wpAnyH_take (i := 14) (oi := { dst := some 7, op := Go.Op.assign (Go.Operand.tmp 40), type := 4, pos := "percent.go:43", after := #[{ on := 12, ground := Go.Ground.data }, { on := 13, ground := Go.Ground.chain }, { on := 0, ground := Go.Ground.phase }, { on := 1, ground := Go.Ground.phase }, { on := 2, ground := Go.Ground.phase }, { on := 3, ground := Go.Ground.phase }, { on := 4, ground := Go.Ground.phase }, { on := 5, ground := Go.Ground.phase }, { on := 6, ground := Go.Ground.phase }, { on := 7, ground := Go.Ground.phase }, { on := 8, ground := Go.Ground.phase }, { on := 9, ground := Go.Ground.phase }, { on := 10, ground := Go.Ground.phase }, { on := 11, ground := Go.Ground.phase }, { on := 12, ground := Go.Ground.phase }, { on := 13, ground := Go.Ground.phase }], guard := none }) (v := ?_) rfl (by kernel_rfl) (by kernel_rfl) (by kernel_rfl) (fun _ _ _ h => h) (Or.inl ⟨by rfl, ?_⟩) (by assumption) ?_
            rotate_left
            focus ((intro w hSw; (try dsimp only at hSw); go_simp) <;> (with_reducible rfl))
            try simp only [Act.put, List.setIfInBounds_toArray, List.set_cons_zero, List.set_cons_succ]
            refine wpAnyH_done (by kernel_rfl) ?_ _
            refine NoPanic.normal ?_
            clear hHeld
            obtain ⟨c0, c1, f0, f1⟩ := a0.cells
            have l0 := a0.lt
            go_wp2_with fail
            rw [Exit.noGoto_ret]; exact bodyPost_ret ((((a0.store 3 k).alloc _).drew).results rfl _ _ rfl rfl) rfl ⟨by rw [hres.out]; rfl, ((FBlk.belowStore hB (Nat.le_refl _) _ _).alloc (by simp; omega) _).drew⟩
          · have hd : decide ((3 : Int) ≤ (l.length : Int) - (k : Int)) = false := decide_eq_false (by omega)
            obtain ⟨c0, c1, f0, f1⟩ := a0.cells
            clear hE2 he hstep hp hz37
            go_wp2_with fail
            rw [Exit.noGoto_ret]; exact bodyPost_ret ((a0.store 3 k).results rfl _ _ rfl rfl) rfl ⟨by rw [hres.out]; rfl, FBlk.belowStore hB (Nat.le_refl _) _ _⟩
        · have h3 : k + 2 < l.length := by
            apply Classical.byContradiction
            intro hn
            rw [escB_short (by omega)] at he
            cases he
          have hnext : Hid (addO (o ++ [escV (l.drop k)]) (decL (l.drop (k + 3)) (k + 3)) = R) := Lib.hid (by rw [← addO_map, ← List.drop_drop, ← decL_esc k he]; exact hp.out)
          have hV : escV (l.drop k) = UInt8.ofNat (16 * hexB l[k + 1] + hexB l[k + 2]) := by rw [drop3 h3]; rfl
          have hE3 := hE2 h3
          rw [he] at hE3
          have hE4 : isHex l[k + 1] = true ∧ isHex l[k + 2] = true := by simpa using hE3.symm
          obtain ⟨y1, hy1⟩ : ∃ y, (l[k + 1]).toNat = y := ⟨_, rfl⟩
          obtain ⟨y2, hy2⟩ : ∃ y, (l[k + 2]).toNat = y := ⟨_, rfl⟩
          have l1 : y1 < 256 := by rw [← hy1]; exact UInt8.toNat_lt _
          have l2 : y2 < 256 := by rw [← hy2]; exact UInt8.toNat_lt _
          unfold isHex hexB at *
          rw [hy1, hy2] at hV hE4
          have HV := Lib.hid (valR_yes hE4.1 hE4.2)
          have g1 := hexP_lt y1
          have g2 := hexP_lt y2
          obtain ⟨v, hv⟩ : ∃ v, 16 * (hexP y1).1 + (hexP y2).1 = v := ⟨_, rfl⟩
          rw [hv] at HV hV
          have hv256 : v < 256 := by omega
          have hW : Hid (escV (l.drop k) = UInt8.ofNat v) := Lib.hid hV
          clear hE3 hE4 hE2 he hstep hp hz37 g1 g2 hv hV
          have hd : decide ((3 : Int) ≤ (l.length : Int) - (k : Int)) = true := decide_eq_true (by omega)
          have q1 : IntKind.i64.wrap ((k : Int) + 1) = ((k + 1 : Nat) : Int) := (IntWalk.i64_in _ (by omega)).trans (by omega)
          have q2 : IntKind.i64.wrap ((k : Int) + 2) = ((k + 2 : Nat) : Int) := (IntWalk.i64_in _ (by omega)).trans (by omega)
          have b1 : ((k + 1 : Nat) : Int) < (l.length : Int) := by omega
          have b2 : ((k + 2 : Nat) : Int) < (l.length : Int) := by omega
          have b3 : (k : Int) + 1 < (l.length : Int) := by omega
          have b4 : (k : Int) + 2 < (l.length : Int) := by omega
          have b5 : 0 ≤ (k : Int) + 1 := by omega
          have b7 : ((k : Int) + 2).toNat = k + 2 := by omega
          have b8 : ((k : Int) + 1).toNat = k + 1 := by omega
          have b6 : 0 ≤ (k : Int) + 2 := by omega
          go_upto_region 8 with fail
          refine wp_region_noPanic ?_
          refine wp_region_held_drew (S := fun _ => True) (by kernel_rfl) ?_ (fun hHeld => ?_)
          focus ((try dsimp only); all_goals trivial)
          try simp only [Act.put, List.setIfInBounds_toArray, List.set_cons_zero, List.set_cons_succ]
          refine wpAnyH_take (i := 0) (oi := { dst := some 29, op := Go.Op.move (Go.Operand.tmp 0), type := 9, pos := "percent.go:43", after := #[], guard := none }) (v := ?_) rfl (by kernel_rfl) (by kernel_rfl) (by kernel_rfl) (fun _ _ _ h => h) (Or.inl ⟨by rfl, ?_⟩) (by assumption) ?_
          rotate_left
          focus ((intro w hSw; (try dsimp only at hSw); go_simp) <;> (with_reducible rfl))
          try simp only [Act.put, List.setIfInBounds_toArray, List.set_cons_zero, List.set_cons_succ]
          refine wpAnyH_take (i := 1) (oi := { dst := some 30, op := Go.Op.move (Go.Operand.tmp 5), type := 3, pos := "percent.go:43", after := #[], guard := none }) (v := ?_) rfl (by kernel_rfl) (by kernel_rfl) (by kernel_rfl) (fun _ _ _ h => h) (Or.inl ⟨by rfl, ?_⟩) (by assumption) ?_
          rotate_left
          focus ((intro w hSw; (try dsimp only at hSw); go_simp) <;> (with_reducible rfl))
          try simp only [Act.put, List.setIfInBounds_toArray, List.set_cons_zero, List.set_cons_succ]
          refine wpAnyH_take (i := 2) (oi := { dst := some 31, op := Go.Op.binOp Go.BinOp.add 3 (Go.Operand.tmp 30) (Go.Operand.const (Go.Value.int Go.IntKind.i64 1)) 3, type := 3, pos := "percent.go:43", after := #[{ on := 1, ground := Go.Ground.data }], guard := none }) (v := ?_) rfl (by kernel_rfl) (by kernel_rfl) (by kernel_rfl) (fun _ _ _ h => h) (Or.inl ⟨by rfl, ?_⟩) (by assumption) ?_
          rotate_left
          focus ((intro w hSw; (try dsimp only at hSw); go_simp) <;> (with_reducible rfl))
          try simp only [Act.put, List.setIfInBounds_toArray, List.set_cons_zero, List.set_cons_succ]
          refine wpAnyH_take (i := 3) (oi := { dst := some 32, op := Go.Op.index 9 (Go.Operand.tmp 29) (Go.Operand.tmp 31), type := 5, pos := "percent.go:43", after := #[{ on := 0, ground := Go.Ground.data }, { on := 2, ground := Go.Ground.data }], guard := none }) (v := ?_) rfl (by kernel_rfl) (by kernel_rfl) (by kernel_rfl) (fun _ _ _ h => h) (Or.inl ⟨by rfl, ?_⟩) (by assumption) ?_
          rotate_left
          focus ((intro w hSw; (try dsimp only at hSw); go_simp) <;> (with_reducible rfl))
          try simp only [Act.put, List.setIfInBounds_toArray, List.set_cons_zero, List.set_cons_succ]
          refine wpAnyH_take (i := 4) (oi := { dst := some 33, op := Go.Op.move (Go.Operand.tmp 0), type := 9, pos := "percent.go:43", after := #[], guard := none }) (v := ?_) rfl (by kernel_rfl) (by kernel_rfl) (by kernel_rfl) (fun _ _ _ h => h) (Or.inl ⟨by rfl, ?_⟩) (by assumption) ?_
          rotate_left
          focus ((intro w hSw; (try dsimp only at hSw); go_simp) <;> (with_reducible rfl))
          try simp only [Act.put, List.setIfInBounds_toArray, List.set_cons_zero, List.set_cons_succ]
          refine wpAnyH_take (i := 5) (oi := { dst := some 34, op := Go.Op.move (Go.Operand.tmp 5), type := 3, pos := "percent.go:43", after := #[], guard := none }) (v := ?_) rfl (by kernel_rfl) (by kernel_rfl) (by kernel_rfl) (fun _ _ _ h => h) (Or.inl ⟨by rfl, ?_⟩) (by assumption) ?_
          rotate_left
          focus ((intro w hSw; (try dsimp only at hSw); go_simp) <;> (with_reducible rfl))
          try simp only [Act.put, List.setIfInBounds_toArray, List.set_cons_zero, List.set_cons_succ]
          refine wpAnyH_take (i := 6) (oi := { dst := some 35, op := Go.Op.binOp Go.BinOp.add 3 (Go.Operand.tmp 34) (Go.Operand.const (Go.Value.int Go.IntKind.i64 2)) 3, type := 3, pos := "percent.go:43", after := #[{ on := 5, ground := Go.Ground.data }], guard := none }) (v := ?_) rfl (by kernel_rfl) (by kernel_rfl) (by kernel_rfl) (fun _ _ _ h => h) (Or.inl ⟨by rfl, ?_⟩) (by assumption) ?_
          rotate_left
          focus ((intro w hSw; (try dsimp only at hSw); go_simp) <;> (with_reducible rfl))
          try simp only [Act.put, List.setIfInBounds_toArray, List.set_cons_zero, List.set_cons_succ]
          refine wpAnyH_take (i := 7) (oi := { dst := some 36, op := Go.Op.index 9 (Go.Operand.tmp 33) (Go.Operand.tmp 35), type := 5, pos := "percent.go:43", after := #[{ on := 4, ground := Go.Ground.data }, { on := 6, ground := Go.Ground.data }], guard := none }) (v := ?_) rfl (by kernel_rfl) (by kernel_rfl) (by kernel_rfl) (fun _ _ _ h => h) (Or.inl ⟨by rfl, ?_⟩) (by assumption) ?_
          rotate_left
          focus ((intro w hSw; (try dsimp only at hSw); go_simp) <;> (with_reducible rfl))
          try simp only [Act.put, List.setIfInBounds_toArray, List.set_cons_zero, List.set_cons_succ]
          refine wpAnyH_ready (rs := [8]) (by kernel_rfl) (by simp) ?_
          refine AllReadyH.cons (o := { dst := some 37, op := Go.Op.buildSlice 43 2 #[(0, Go.Operand.tmp 32), (1, Go.Operand.tmp 36)], type := 43, pos := "percent.go:43", after := #[{ on := 3, ground := Go.Ground.data }, { on := 7, ground := Go.Ground.data }], guard := none }) rfl (fun K hK => ?_) AllReadyH.nil
          go_simp
          refine hK.out _ _ ?_ (fun hNew => ?_)
          focus ((try dsimp only); all_goals trivial)
          clear hK K hHeld
          have hHeld := hNew
          clear hNew
          try simp only [Act.put, List.setIfInBounds_toArray, List.set_cons_zero, List.set_cons_succ]
          refine wpAnyH_ready (rs := [9]) (by kernel_rfl) (by simp) ?_
          refine AllReadyH.cons (o := { dst := some 38, op := Go.Op.call { callee := Go.Callee.value (Go.Operand.func 95), args := #[Go.Operand.tmp 37], argTypes := #[43] }, type := 120, pos := "percent.go:43", after := #[{ on := 8, ground := Go.Ground.data }], guard := none }) rfl (fun K hK => ?_) AllReadyH.nil
          go_simp
          (go_at_call 95; refine (value2 y1 y2 l1 l2 wr).mono ?_; rintro e w' ⟨rfl, rfl⟩; rw [HV.out])
          first | (go_wp2_with fail) | skip
          refine hK.out _ _ ?_ (fun hNew => ?_)
          focus ((try dsimp only); all_goals trivial)
          clear hK K hHeld
          have hHeld := hNew
          clear hNew
          try simp only [Act.put, List.setIfInBounds_toArray, List.set_cons_zero, List.set_cons_succ]
          refine wpAnyH_take (i := 10) (oi := { dst := some 28, op := Go.Op.move (Go.Operand.tmp 38), type := 120, pos := "percent.go:43", after := #[{ on := 9, ground := Go.Ground.data }], guard := none }) (v := ?_) rfl (by kernel_rfl) (by kernel_rfl) (by kernel_rfl) (fun _ _ _ h => h) (Or.inl ⟨by rfl, ?_⟩) (by assumption) ?_
          rotate_left
          focus ((intro w hSw; (try dsimp only at hSw); go_simp) <;> (with_reducible rfl))
          try simp only [Act.put, List.setIfInBounds_toArray, List.set_cons_zero, List.set_cons_succ]
          refine wpAnyH_take (i := 11) (oi := { dst := some 39, op := Go.Op.extract (Go.Operand.tmp 28) 0, type := 5, pos := "percent.go:43", after := #[{ on := 10, ground := Go.Ground.data }], guard := none }) (v := ?_) rfl (by kernel_rfl) (by kernel_rfl) (by kernel_rfl) (fun _ _ _ h => h) (Or.inl ⟨by rfl, ?_⟩) (by assumption) ?_
          rotate_left
          focus ((intro w hSw; (try dsimp only at hSw); go_simp) <;> (with_reducible rfl))
          try simp only [Act.put, List.setIfInBounds_toArray, List.set_cons_zero, List.set_cons_succ]
          refine wpAnyH_take (i := 12) (oi := { dst := some 40, op := Go.Op.extract (Go.Operand.tmp 28) 1, type := 4, pos := "percent.go:43", after := #[{ on := 10, ground := Go.Ground.data }, { on := 13, ground := Go.Ground.gcOnly Go.Departure.lateStores }], guard := none }) (v := ?_) rfl (by kernel_rfl) (by kernel_rfl) (by kernel_rfl) (fun _ _ _ h => h) (Or.inl ⟨by rfl, ?_⟩) (by assumption) ?_
          rotate_left
          focus ((intro w hSw; (try dsimp only at hSw); go_simp) <;> (with_reducible rfl))
          try simp only [Act.put, List.setIfInBounds_toArray, List.set_cons_zero, List.set_cons_succ]
          refine wpAnyH_take (i := 13) (oi := { dst := some 6, op := Go.Op.assign (Go.Operand.tmp 39), type := 5, pos := "percent.go:43", after := #[{ on := 11, ground := Go.Ground.data }, { on := 9, ground := Go.Ground.chain }, { on := 0, ground := Go.Ground.phase }, { on := 1, ground := Go.Ground.phase }, { on := 2, ground := Go.Ground.phase }, { on := 3, ground := Go.Ground.phase }, { on := 4, ground := Go.Ground.phase }, { on := 5, ground := Go.Ground.phase }, { on := 6, ground := Go.Ground.phase }, { on := 7, ground := Go.Ground.phase }, { on := 8, ground := Go.Ground.phase }, { on := 9, ground := Go.Ground.phase }, { on := 10, ground := Go.Ground.phase }, { on := 11, ground := Go.Ground.phase }, { on := 12, ground := Go.Ground.textOnly Go.Departure.lateStores }], guard := none }) (v := ?_) rfl (by kernel_rfl) (by kernel_rfl) (by kernel_rfl) (fun _ _ _ h => h) (Or.inl ⟨by rfl, ?_⟩) (by assumption) ?_
          rotate_left
          focus ((intro w hSw; (try dsimp only at hSw); go_simp) <;> (with_reducible rfl))
          try simp only [Act.put, List.setIfInBounds_toArray, List.set_cons_zero, List.set_cons_succ]
          refine wpAnyH_take (i := 14) (oi := { dst := some 7, op := Go.Op.assign (Go.Operand.tmp 40), type := 4, pos := "percent.go:43", after := #[{ on := 12, ground := Go.Ground.data }, { on := 13, ground := Go.Ground.chain }, { on := 0, ground := Go.Ground.phase }, { on := 1, ground := Go.Ground.phase }, { on := 2, ground := Go.Ground.phase }, { on := 3, ground := Go.Ground.phase }, { on := 4, ground := Go.Ground.phase }, { on := 5, ground := Go.Ground.phase }, { on := 6, ground := Go.Ground.phase }, { on := 7, ground := Go.Ground.phase }, { on := 8, ground := Go.Ground.phase }, { on := 9, ground := Go.Ground.phase }, { on := 10, ground := Go.Ground.phase }, { on := 11, ground := Go.Ground.phase }, { on := 12, ground := Go.Ground.phase }, { on := 13, ground := Go.Ground.phase }], guard := none }) (v := ?_) rfl (by kernel_rfl) (by kernel_rfl) (by kernel_rfl) (fun _ _ _ h => h) (Or.inl ⟨by rfl, ?_⟩) (by assumption) ?_
          rotate_left
          focus ((intro w hSw; (try dsimp only at hSw); go_simp) <;> (with_reducible rfl))
          try simp only [Act.put, List.setIfInBounds_toArray, List.set_cons_zero, List.set_cons_succ]
          refine wpAnyH_done (by kernel_rfl) ?_ _
          refine NoPanic.normal ?_
          clear hHeld
          go_wp2_with fail
          refine (writeByte_any (w.heap.size + 1) (w.heap.size + 1) (Lib.byteCells o) (v : Int) _ (bis_below hrow (below_alloc1 _ _).drew) (by rw [Lib.byteCells_length]; omega) (by simp; omega)).mono ?_
          rintro e w2 ⟨rfl, h2, b2⟩
          have z2 := b2.size
          simp only [World.size_drew, World.size_alloc] at z2
          go_wp2_with fail
          go_roundw
          case rel =>
            refine ⟨k + 3, o ++ [escV (l.drop k)], by omega, by go_num, hnext, by simp; omega, ?_, (b2.block _ (by omega)).trans (a0.alloc _).drew, ((hB.alloc hB.size _).drew).trans (b2.mono (by omega))⟩
            right
            have hc : Lib.byteCells [escV (l.drop k)] = [.int .u8 (v : Int)] := by
              rw [hW.out]
              show [Value.int .u8 ((UInt8.ofNat v).toNat : Int)] = _
              rw [show (UInt8.ofNat v).toNat = v from Nat.mod_eq_of_lt hv256]
            rw [bytes_append, hc]
            exact h2
          case measure => simp [intOf]; omega
      · have hz37 : z ≠ 37 := fun e => h37 (by rw [← hy, e]; rfl)
        have hnext : Hid (addO (o ++ [z]) (decL (l.drop (k + 1)) (k + 1)) = R) := Lib.hid (by rw [← addO_map, ← decL_plain k hz37, ← hstep]; exact hp.out)
        have hy39 : ((y : Int) == 37) = false := by rw [beq_eq_false_iff_ne]; omega
        have hy38 : ((y : Int) != 37) = true := by rw [bne, hy39]; rfl
        have hy40 : (y == 37) = false := by rw [beq_eq_false_iff_ne]; omega
        have hy41 : (y != 37) = true := by rw [bne, hy40]; rfl
        have hY := Lib.hid hy
        clear hz37 hstep hp hE2
        go_wp2_with fail
        refine (writeByte_any (w.heap.size + 1) (w.heap.size + 1) (Lib.byteCells o) (y : Int) _ hrow (by rw [Lib.byteCells_length]; omega) (by omega)).mono ?_
        rintro e w2 ⟨rfl, h2, b2⟩
        have z2 := b2.size
        go_wp2_with fail
        go_roundw
        case rel =>
          refine ⟨k + 1, o ++ [z], by omega, by go_num, hnext, by simp; omega, ?_, (b2.block _ (by omega)).trans a0, hB.trans (b2.mono (by omega))⟩
          right
          rw [bytes_append, show Lib.byteCells [z] = [.int .u8 (y : Int)] by rw [← hY.out]; rfl]
          exact h2
        case measure => simp [intOf]; omega
    · obtain rfl : k = l.length := by omega
      have hres : Hid (R = .ok o) := Lib.hid (by rw [← hp.out, List.drop_length, decL_nil]; show Except.ok _ = _; simp)
      clear hp
      go_wp2_with fail
      refine (string_any (w.heap.size + 1) (w.heap.size + 1) o _ hrow (by omega)).mono ?_
      rintro e w2 ⟨rfl, b2⟩
      have a2 : FBlk w2 w.heap.size 0 0 := (b2.block _ (by omega)).trans a0
      obtain ⟨c0, c1, f0, f1⟩ := a2.cells
      go_wp2_with fail
      rw [Exit.noGoto_ret]; exact bodyPost_ret ((a2.store 0 0).results rfl _ _ rfl rfl) rfl ⟨by rw [hres.out]; rfl, FBlk.belowStore (hB.trans (b2.mono (by omega))) (Nat.le_refl _) _ _⟩
end Go.Proofs.YtjinedeelkdgiaaDoor
