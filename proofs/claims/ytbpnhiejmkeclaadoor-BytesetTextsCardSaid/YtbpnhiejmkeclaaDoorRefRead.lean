/-
  The reference's read for every text of fewer than a million bytes: it returns the byte that the program's readByte returns, and how many bytes it takes.
-/
import Derived.Test.YtbpnhiejmkeclaaDoorRefText1
namespace Go.Proofs.YtbpnhiejmkeclaaDoor
open Go.RowKit
attribute [local go_sem] ba_get
/-- What read returns, as a value. -/
abbrev readV (l : List UInt8) : Value := .tuple #[.int .u8 ((readN l).1 : Int), .int .i64 ((readN l).2 : Int)]
set_option maxHeartbeats 1000000 in
theorem refRead_nil (w : World) :
    Calls Tryd.prog 46 #[.string ⟨([] : List UInt8).toArray⟩] w fun e w' => e = .returned (readV []) ∧ Below w.heap.size w w' := by
  go_enter Tryd.func46, Tryd.ntmps46
  go_wp2_with fail
  go_ret2
  exact ⟨rfl, Below.refl _ _⟩
set_option maxHeartbeats 1000000 in
theorem refRead_plain (b : UInt8) (r : List UInt8) (hp : plainB b.toNat = true) (w : World) :
    Calls Tryd.prog 46 #[.string ⟨(b :: r).toArray⟩] w fun e w' => e = .returned (readV (b :: r)) ∧ Below w.heap.size w w' := by
  have hb := b.toNat_lt
  have HV : Hid (readN (b :: r) = (b.toNat, 1)) := Lib.hid (by rw [readN_some (readB_plain b r hp)]; simp)
  have HP := Lib.hid hp
  clear hp
  go_enter Tryd.func46, Tryd.ntmps46
  go_wp2_with fail
  refine (refItself_any b.toNat hb _).mono ?_
  rintro e w' ⟨rfl, rfl⟩
  rw [HP.out]
  go_wp2_with fail
  go_ret2
  exact ⟨by rw [readV, HV.out]; rfl, Below.refl _ _⟩
set_option maxHeartbeats 1000000 in
theorem refRead_short (b : UInt8) (r : List UInt8) (hr : r.length < 3) (hp : plainB b.toNat = false) (hN : readB (b :: r) = none) (w : World) :
    Calls Tryd.prog 46 #[.string ⟨(b :: r).toArray⟩] w fun e w' => e = .returned (readV (b :: r)) ∧ Below w.heap.size w w' := by
  have hb := b.toNat_lt
  have HV : Hid (readN (b :: r) = (0, 0)) := Lib.hid (readN_none hN)
  have HP := Lib.hid hp
  clear hp hN
  have hd : decide ((r.length : Int) + 1 < 4) = true := decide_eq_true (by omega)
  go_enter Tryd.func46, Tryd.ntmps46
  go_wp2_with fail
  refine (refItself_any b.toNat hb _).mono ?_
  rintro e w' ⟨rfl, rfl⟩
  rw [HP.out]
  go_wp2_with fail
  go_ret2
  exact ⟨by rw [readV, HV.out]; rfl, Below.refl _ _⟩
set_option maxHeartbeats 1000000 in
theorem refRead_other (b c d f : UInt8) (r : List UInt8) (hr : r.length < 1000000) (hp : plainB b.toNat = false) (hn : ¬ (b = 92 ∧ c = 120)) (hN : readB (b :: c :: d :: f :: r) = none) (w : World) :
    Calls Tryd.prog 46 #[.string ⟨(b :: c :: d :: f :: r).toArray⟩] w fun e w' => e = .returned (readV (b :: c :: d :: f :: r)) ∧ Below w.heap.size w w' := by
  have hb := b.toNat_lt
  have HV : Hid (readN (b :: c :: d :: f :: r) = (0, 0)) := Lib.hid (readN_none hN)
  have HP := Lib.hid hp
  clear hp hN
  have hd : decide ((r.length : Int) + 1 + 1 + 1 + 1 < 4) = false := decide_eq_false (by omega)
  have hne : (b.toNat ≠ 92) ∨ (b = 92 ∧ c.toNat ≠ 120) := by
    by_cases h : b = 92
    · right
      refine ⟨h, fun e => hn ⟨h, UInt8.toNat_inj.1 (by rw [e]; rfl)⟩⟩
    · left
      exact fun e => h (UInt8.toNat_inj.1 (by rw [e]; rfl))
  rcases hne with hne | ⟨rfl, hne⟩
  · have h1 : (b.toNat == 92) = false := by simpa using hne
    go_enter Tryd.func46, Tryd.ntmps46
    go_wp2_with fail
    refine (refItself_any b.toNat hb _).mono ?_
    rintro e w' ⟨rfl, rfl⟩
    rw [HP.out]
    go_wp2_with fail
    go_ret2
    exact ⟨by rw [readV, HV.out]; rfl, Below.refl _ _⟩
  · have h1 : (c.toNat == 120) = false := by simpa using hne
    go_enter Tryd.func46, Tryd.ntmps46
    go_wp2_with fail
    refine (refItself_any 92 (by omega) _).mono ?_
    rintro e w' ⟨rfl, rfl⟩
    rw [show plainB 92 = false from HP.out]
    go_wp2_with fail
    go_ret2
    exact ⟨by rw [readV, HV.out]; rfl, Below.refl _ _⟩
set_option maxHeartbeats 1000000 in
theorem refRead_esc (h1 h2 : UInt8) (r : List UInt8) (hr : r.length < 1000000) (w : World) :
    Calls Tryd.prog 46 #[.string ⟨(92 :: 120 :: h1 :: h2 :: r).toArray⟩] w fun e w' => e = .returned (readV (92 :: 120 :: h1 :: h2 :: r)) ∧ Below w.heap.size w w' := by
  have hb1 := h1.toNat_lt
  have hb2 := h2.toNat_lt
  have HP := Lib.hid (show plainB 92 = false by decide +kernel)
  have hd : decide ((r.length : Int) + 1 + 1 + 1 + 1 < 4) = false := decide_eq_false (by omega)
  have hp : ¬ plainB (92 : UInt8).toNat = true := by decide +kernel
  obtain ⟨⟨v1, o1⟩, e1⟩ : ∃ p, hexV h1.toNat = p := ⟨_, rfl⟩
  obtain ⟨⟨v2, o2⟩, e2⟩ : ∃ p, hexV h2.toNat = p := ⟨_, rfl⟩
  have l1 : v1 < 16 := by have := hexV_lt h1.toNat; rw [e1] at this; exact this
  have l2 : v2 < 16 := by have := hexV_lt h2.toNat; rw [e2] at this; exact this
  have hB : readB (92 :: 120 :: h1 :: h2 :: r) = if (o1 && o2) then some (16 * v1 + v2, r) else none := by
    rw [readB.eq_def]
    refine (if_neg hp).trans ?_
    show (if ((hexV h1.toNat).2 && (hexV h2.toNat).2) then some (16 * (hexV h1.toNat).1 + (hexV h2.toNat).1, r) else none) = _
    rw [e1, e2]
  clear hp
  cases o1
  · have HV : Hid (readN (92 :: 120 :: h1 :: h2 :: r) = (0, 0)) := Lib.hid (readN_none hB)
    have D1 : Hid (digI h1.toNat = -1) := Lib.hid (by unfold digI; rw [e1]; rfl)
    clear hB e1 e2
    go_enter Tryd.func46, Tryd.ntmps46
    go_wp2_with fail
    refine (refItself_any 92 (by omega) _).mono ?_
    rintro e w' ⟨rfl, rfl⟩
    rw [HP.out]
    go_wp2_with fail
    refine (refDigit_any h1.toNat hb1 _).mono ?_
    rintro e w' ⟨rfl, rfl⟩
    rw [D1.out]
    go_wp2_with fail
    go_ret2
    exact ⟨by rw [readV, HV.out]; rfl, Below.refl _ _⟩
  · have D1 : Hid (digI h1.toNat = (v1 : Int)) := Lib.hid (by unfold digI; rw [e1]; rfl)
    have n1 : decide ((v1 : Int) < 0) = false := decide_eq_false (by omega)
    cases o2
    · have HV : Hid (readN (92 :: 120 :: h1 :: h2 :: r) = (0, 0)) := Lib.hid (readN_none hB)
      have D2 : Hid (digI h2.toNat = -1) := Lib.hid (by unfold digI; rw [e2]; rfl)
      clear hB e1 e2
      go_enter Tryd.func46, Tryd.ntmps46
      go_wp2_with fail
      refine (refItself_any 92 (by omega) _).mono ?_
      rintro e w' ⟨rfl, rfl⟩
      rw [HP.out]
      go_wp2_with fail
      refine (refDigit_any h1.toNat hb1 _).mono ?_
      rintro e w' ⟨rfl, rfl⟩
      rw [D1.out]
      go_wp2_with fail
      refine (refDigit_any h2.toNat hb2 _).mono ?_
      rintro e w' ⟨rfl, rfl⟩
      rw [D2.out]
      go_wp2_with fail
      go_ret2
      exact ⟨by rw [readV, HV.out]; rfl, Below.refl _ _⟩
    · have HV : Hid (readN (92 :: 120 :: h1 :: h2 :: r) = (16 * v1 + v2, 4)) := Lib.hid (by rw [readN_some hB]; simp; omega)
      have D2 : Hid (digI h2.toNat = (v2 : Int)) := Lib.hid (by unfold digI; rw [e2]; rfl)
      have n2 : decide ((v2 : Int) < 0) = false := decide_eq_false (by omega)
      have q1 : IntKind.i64.wrap (16 * (v1 : Int)) = 16 * (v1 : Int) := IntWalk.i64_in _ (by omega)
      have q2 : IntKind.i64.wrap (16 * (v1 : Int) + (v2 : Int)) = ((16 * v1 + v2 : Nat) : Int) := (IntWalk.i64_in _ (by omega)).trans (by omega)
      have q3 : IntKind.u8.wrap ((16 * v1 + v2 : Nat) : Int) = ((16 * v1 + v2 : Nat) : Int) := by rw [IntKind.wrap_u8']; omega
      clear hB e1 e2
      go_enter Tryd.func46, Tryd.ntmps46
      go_wp2_with fail
      refine (refItself_any 92 (by omega) _).mono ?_
      rintro e w' ⟨rfl, rfl⟩
      rw [HP.out]
      go_wp2_with fail
      refine (refDigit_any h1.toNat hb1 _).mono ?_
      rintro e w' ⟨rfl, rfl⟩
      rw [D1.out]
      go_wp2_with fail
      refine (refDigit_any h2.toNat hb2 _).mono ?_
      rintro e w' ⟨rfl, rfl⟩
      rw [D2.out]
      go_upto_region 7 with fail
      have b2 : (2 : Int) < (r.length : Int) + 1 + 1 + 1 + 1 := by omega
      have b3 : (3 : Int) < (r.length : Int) + 1 + 1 + 1 + 1 := by omega
      refine wp_region_noPanic ?_
      refine wp_region_held_drew (S := fun wx => Below w.heap.size w wx) (by kernel_rfl) ?_ (fun hHeld => ?_)
      focus ((try dsimp only); (first | assumption | go_grown))
      try simp only [Act.put, List.setIfInBounds_toArray, List.set_cons_zero, List.set_cons_succ]
      refine wpAnyH_take (i := 0) (oi := { dst := some 36, op := Go.Op.move (Go.Operand.tmp 0), type := 9, pos := "ref.go:177", after := #[], guard := none }) (v := ?_) rfl (by kernel_rfl) (by kernel_rfl) (by kernel_rfl) (fun _ _ _ h => h) (Or.inl ⟨by rfl, ?_⟩) (by assumption) ?_
      rotate_left
      focus ((intro w hSw; (try dsimp only at hSw); go_simp) <;> (with_reducible rfl))
      try simp only [Act.put, List.setIfInBounds_toArray, List.set_cons_zero, List.set_cons_succ]
      refine wpAnyH_take (i := 1) (oi := { dst := some 37, op := Go.Op.index 9 (Go.Operand.tmp 36) (Go.Operand.const (Go.Value.int Go.IntKind.i64 2)), type := 5, pos := "ref.go:177", after := #[{ on := 0, ground := Go.Ground.data }], guard := none }) (v := ?_) rfl (by kernel_rfl) (by kernel_rfl) (by kernel_rfl) (fun _ _ _ h => h) (Or.inl ⟨by rfl, ?_⟩) (by assumption) ?_
      rotate_left
      focus ((intro w hSw; (try dsimp only at hSw); go_simp) <;> (with_reducible rfl))
      try simp only [Act.put, List.setIfInBounds_toArray, List.set_cons_zero, List.set_cons_succ]
      refine wpAnyH_take (i := 4) (oi := { dst := some 40, op := Go.Op.move (Go.Operand.tmp 0), type := 9, pos := "ref.go:177", after := #[], guard := none }) (v := ?_) rfl (by kernel_rfl) (by kernel_rfl) (by kernel_rfl) (fun _ _ _ h => h) (Or.inl ⟨by rfl, ?_⟩) (by assumption) ?_
      rotate_left
      focus ((intro w hSw; (try dsimp only at hSw); go_simp) <;> (with_reducible rfl))
      try simp only [Act.put, List.setIfInBounds_toArray, List.set_cons_zero, List.set_cons_succ]
      refine wpAnyH_take (i := 5) (oi := { dst := some 41, op := Go.Op.index 9 (Go.Operand.tmp 40) (Go.Operand.const (Go.Value.int Go.IntKind.i64 3)), type := 5, pos := "ref.go:177", after := #[{ on := 4, ground := Go.Ground.data }], guard := none }) (v := ?_) rfl (by kernel_rfl) (by kernel_rfl) (by kernel_rfl) (fun _ _ _ h => h) (Or.inl ⟨by rfl, ?_⟩) (by assumption) ?_
      rotate_left
      focus ((intro w hSw; (try dsimp only at hSw); go_simp) <;> (with_reducible rfl))
      try simp only [Act.put, List.setIfInBounds_toArray, List.set_cons_zero, List.set_cons_succ]
      refine wpAnyH_ready (rs := [2]) (by kernel_rfl) (by simp) ?_
      refine AllReadyH.cons (o := { dst := some 38, op := Go.Op.call { callee := Go.Callee.value (Go.Operand.func 55), args := #[Go.Operand.tmp 37], argTypes := #[5] }, type := 3, pos := "ref.go:177", after := #[{ on := 1, ground := Go.Ground.data }], guard := none }) rfl (fun K hK => ?_) AllReadyH.nil
      go_simp
      (go_at_call 55; refine (refDigit_any h1.toNat hb1 _).mono ?_; rintro e w' ⟨rfl, rfl⟩; rw [D1.out])
      first | (go_wp2_with fail) | skip
      refine hK.out _ _ ?_ (fun hNew => ?_)
      focus ((try dsimp only); (first | assumption | go_grown))
      clear hK K hHeld
      have hHeld := hNew
      clear hNew
      try simp only [Act.put, List.setIfInBounds_toArray, List.set_cons_zero, List.set_cons_succ]
      refine wpAnyH_take (i := 3) (oi := { dst := some 39, op := Go.Op.binOp Go.BinOp.mul 3 (Go.Operand.const (Go.Value.int Go.IntKind.i64 16)) (Go.Operand.tmp 38) 3, type := 3, pos := "ref.go:177", after := #[{ on := 2, ground := Go.Ground.data }], guard := none }) (v := ?_) rfl (by kernel_rfl) (by kernel_rfl) (by kernel_rfl) (fun _ _ _ h => h) (Or.inl ⟨by rfl, ?_⟩) (by assumption) ?_
      rotate_left
      focus ((intro w hSw; (try dsimp only at hSw); go_simp) <;> (with_reducible rfl))
      try simp only [Act.put, List.setIfInBounds_toArray, List.set_cons_zero, List.set_cons_succ]
      refine wpAnyH_ready (rs := [6]) (by kernel_rfl) (by simp) ?_
      refine AllReadyH.cons (o := { dst := some 42, op := Go.Op.call { callee := Go.Callee.value (Go.Operand.func 55), args := #[Go.Operand.tmp 41], argTypes := #[5] }, type := 3, pos := "ref.go:177", after := #[{ on := 5, ground := Go.Ground.data }, { on := 2, ground := Go.Ground.chain }], guard := none }) rfl (fun K hK => ?_) AllReadyH.nil
      go_simp
      (go_at_call 55; refine (refDigit_any h2.toNat hb2 _).mono ?_; rintro e w' ⟨rfl, rfl⟩; rw [D2.out])
      first | (go_wp2_with fail) | skip
      refine hK.out _ _ ?_ (fun hNew => ?_)
      focus ((try dsimp only); (first | assumption | go_grown))
      clear hK K hHeld
      have hHeld := hNew
      clear hNew
      try simp only [Act.put, List.setIfInBounds_toArray, List.set_cons_zero, List.set_cons_succ]
      refine wpAnyH_take (i := 7) (oi := { dst := some 43, op := Go.Op.binOp Go.BinOp.add 3 (Go.Operand.tmp 39) (Go.Operand.tmp 42) 3, type := 3, pos := "ref.go:177", after := #[{ on := 3, ground := Go.Ground.data }, { on := 6, ground := Go.Ground.data }], guard := none }) (v := ?_) rfl (by kernel_rfl) (by kernel_rfl) (by kernel_rfl) (fun _ _ _ h => h) (Or.inl ⟨by rfl, ?_⟩) (by assumption) ?_
      rotate_left
      focus ((intro w hSw; (try dsimp only at hSw); go_simp) <;> (with_reducible rfl))
      try simp only [Act.put, List.setIfInBounds_toArray, List.set_cons_zero, List.set_cons_succ]
      refine wpAnyH_take (i := 8) (oi := { dst := some 44, op := Go.Op.convert 3 5 (Go.Operand.tmp 43), type := 5, pos := "ref.go:177", after := #[{ on := 7, ground := Go.Ground.data }], guard := none }) (v := ?_) rfl (by kernel_rfl) (by kernel_rfl) (by kernel_rfl) (fun _ _ _ h => h) (Or.inl ⟨by rfl, ?_⟩) (by assumption) ?_
      rotate_left
      focus ((intro w hSw; (try dsimp only at hSw); go_simp) <;> (with_reducible rfl))
      try simp only [Act.put, List.setIfInBounds_toArray, List.set_cons_zero, List.set_cons_succ]
      refine wpAnyH_take (i := 9) (oi := { dst := some 2, op := Go.Op.assign (Go.Operand.tmp 44), type := 5, pos := "ref.go:177", after := #[{ on := 8, ground := Go.Ground.data }, { on := 6, ground := Go.Ground.chain }, { on := 0, ground := Go.Ground.phase }, { on := 1, ground := Go.Ground.phase }, { on := 2, ground := Go.Ground.phase }, { on := 3, ground := Go.Ground.phase }, { on := 4, ground := Go.Ground.phase }, { on := 5, ground := Go.Ground.phase }, { on := 6, ground := Go.Ground.phase }, { on := 7, ground := Go.Ground.phase }, { on := 8, ground := Go.Ground.phase }], guard := none }) (v := ?_) rfl (by kernel_rfl) (by kernel_rfl) (by kernel_rfl) (fun _ _ _ h => h) (Or.inl ⟨by rfl, ?_⟩) (by assumption) ?_
      rotate_left
      focus ((intro w hSw; (try dsimp only at hSw); go_simp) <;> (with_reducible rfl))
      try simp only [Act.put, List.setIfInBounds_toArray, List.set_cons_zero, List.set_cons_succ]
      refine wpAnyH_take (i := 10) (oi := { dst := some 3, op := Go.Op.assign (Go.Operand.const (Go.Value.int Go.IntKind.i64 4)), type := 3, pos := "ref.go:177", after := #[{ on := 9, ground := Go.Ground.chain }, { on := 0, ground := Go.Ground.phase }, { on := 1, ground := Go.Ground.phase }, { on := 2, ground := Go.Ground.phase }, { on := 3, ground := Go.Ground.phase }, { on := 4, ground := Go.Ground.phase }, { on := 5, ground := Go.Ground.phase }, { on := 6, ground := Go.Ground.phase }, { on := 7, ground := Go.Ground.phase }, { on := 8, ground := Go.Ground.phase }, { on := 9, ground := Go.Ground.phase }], guard := none }) (v := ?_) rfl (by kernel_rfl) (by kernel_rfl) (by kernel_rfl) (fun _ _ _ h => h) (Or.inl ⟨by rfl, ?_⟩) (by assumption) ?_
      rotate_left
      focus ((intro w hSw; (try dsimp only at hSw); go_simp) <;> (with_reducible rfl))
      try simp only [Act.put, List.setIfInBounds_toArray, List.set_cons_zero, List.set_cons_succ]
      refine wpAnyH_done (by kernel_rfl) ?_ _
      refine NoPanic.normal ?_
      all_goals
        go_wp2_with fail
        go_ret2
        refine ⟨?_, by go_grown⟩
        rw [readV, HV.out]
        simp
        rw [IntKind.wrap_u8']
        omega
/-- What read returns, for every text. -/
theorem refRead_any (l : List UInt8) (hl : l.length < 1000000) (w : World) :
    Calls Tryd.prog 46 #[.string ⟨l.toArray⟩] w fun e w' => e = .returned (readV l) ∧ Below w.heap.size w w' := by
  cases l with
  | nil => exact refRead_nil w
  | cons b t =>
    by_cases hp : plainB b.toNat = true
    · exact refRead_plain b t hp w
    · have hp' : plainB b.toNat = false := by simpa using hp
      by_cases hs : t.length < 3
      · refine refRead_short b t hs hp' ?_ w
        rw [readB.eq_def]
        refine (if_neg hp).trans ?_
        split
        · simp only [List.length_cons] at hs; omega
        · rfl
      · match t, hs with
        | c :: d :: f :: r, _ =>
          by_cases hbc : b = 92 ∧ c = 120
          · obtain ⟨rfl, rfl⟩ := hbc
            exact refRead_esc d f r (by simp at hl; omega) w
          · refine refRead_other b c d f r (by simp at hl; omega) hp' hbc ?_ w
            rw [readB.eq_def]
            refine (if_neg hp).trans ?_
            split
            · rename_i heq; injection heq with e1 e2; exact (hbc ⟨rfl, e1⟩).elim
            · rfl
        | [], hs => simp at hs
        | [_], hs => simp at hs
        | [_, _], hs => simp at hs
end Go.Proofs.YtbpnhiejmkeclaaDoor
