/-
  percent.Encode and Length for every text and every set.
-/
import Derived.Test.YtbbphchhdppipaaDoorUPlain2
import Derived.Test.YtbbphchhdppipaaDoorUPrim
namespace Go.Proofs.YtbbphchhdppipaaDoor
open Go.RowKit
attribute [local go_sem] ba_get w_0 w_1 w_2 w_3
theorem bat_below {T e : TypeId} {B b : Nat} {p : Value} {bs : List Value} {w w' : World} (h : Lib.BuilderAt T e B b p bs w) (hb : Below w.heap.size w w') : Lib.BuilderAt T e B b p bs w' := by
  have hlt := h.lt
  obtain ⟨hB, v, hbk, hown, hne⟩ := h
  exact ⟨hB, v, (hb.block b hlt).trans hbk, own_below hown hb, hne⟩
theorem bis_below {T e : TypeId} {B b : Nat} {bs : List Value} {w w' : World} (h : Lib.IsBuilder T e B b bs w) (hb : Below w.heap.size w w') : Lib.IsBuilder T e B b bs w' := h.imp (bat_below · hb) (bat_below · hb)
theorem bis_lt {T e : TypeId} {B b : Nat} {bs : List Value} {w : World} (h : Lib.IsBuilder T e B b bs w) : b < w.heap.size := by
  rcases h with h | h
  · exact h.lt
  · exact h.lt
theorem below_alloc1 (w : World) (o : Obj) : Below w.heap.size w (w.alloc o) := (Below.refl _ w).alloc (Nat.le_refl _) o
theorem enc1_plain (s p : WSet) (hp : plainW s = p) (z : UInt8) : enc1 s z = if p.has z.toNat then [z] else [37, hexU (z.toNat / 16), hexU (z.toNat % 16)] := by
  have h := has_plain s z.toNat (UInt8.toNat_lt _)
  rw [hp] at h
  have e : (z.toNat != 37) = (z != 37) := by
    by_cases hz : z = 37
    · subst hz; rfl
    · have h2 : z.toNat ≠ 37 := fun e => hz (UInt8.toNat_inj.1 (by rw [e]; rfl))
      rw [bne_iff_ne.2 h2, bne_iff_ne.2 hz]
  unfold enc1
  rw [h, e]
theorem bytes_append (x y : List UInt8) : Lib.byteCells (x ++ y) = Lib.byteCells x ++ Lib.byteCells y := by simp [Lib.byteCells]
set_option maxHeartbeats 4000000 in
theorem encode_any (l : List UInt8) (hl : l.length < 1000000) (a b c d : BitVec 64) (w : World) :
    Calls Tryd.prog 64 #[.string ⟨l.toArray⟩, .agg #[.int .u64 a.toNat, .int .u64 b.toNat, .int .u64 c.toNat, .int .u64 d.toNat]] w fun e w' => e = .returned (.string ⟨(encL ⟨a, b, c, d⟩ l).toArray⟩) ∧ Below w.heap.size w w' := by
  go_enter Tryd.func64, Tryd.ntmps64
  have hB : Below w.heap.size w (w.alloc (.cells #[.int .u64 a.toNat, .int .u64 b.toNat, .int .u64 c.toNat, .int .u64 d.toNat] 25)) := by go_grown
  go_wp2_with fail
  refine (plain_any a b c d _).mono ?_
  rintro e w1 ⟨rfl, hb⟩
  obtain ⟨⟨p0, p1, p2, p3⟩, hp⟩ : ∃ p, Hid (plainW ⟨a, b, c, d⟩ = p) := ⟨_, Lib.hid rfl⟩
  rw [hp.out]
  have hB := hB.trans (hb.mono hB.size)
  have hw1 : w.heap.size ≤ w1.heap.size := hB.size
  clear hb
  go_wp2_with fail
  go_loopw [12] (fun i wr => ∃ (k : Nat) (o : List UInt8), k ≤ l.length ∧ i = .int .i64 k ∧ Hid (o = encL ⟨a, b, c, d⟩ (l.take k)) ∧ BIs (w1.heap.size + 1) (w1.heap.size + 1) (Lib.byteCells o) wr ∧ Blk wr w1.heap.size ⟨p0, p1, p2, p3⟩ ∧ Below w.heap.size w wr)
    (fun i _ => l.length - (intOf i).toNat)
  case atStart =>
    have hb := Lib.fresh_isBuilder 83 5 (w1.alloc (.cells #[.int .u64 p0.toNat, .int .u64 p1.toNat, .int .u64 p2.toNat, .int .u64 p3.toNat] 25))
    rw [World.size_alloc] at hb
    exact ⟨0, [], Nat.zero_le _, rfl, Lib.hid (by rw [List.take_zero]; rfl), hb, (Blk.new w1 ⟨p0, p1, p2, p3⟩).alloc _, (hB.alloc hw1 _).alloc (by simp; omega) _⟩
  case round =>
    obtain ⟨k, o, hk, rfl, ho, hrow, a0, hB⟩ := hrel
    by_cases hlt : k < l.length
    · have h1 : decide ((k : Int) < (l.length : Int)) = true := decide_eq_true (by omega)
      have hb2 : (k : Int) < (l.length : Int) := by omega
      have hol : o.length ≤ 3 * l.length := by
        rw [ho.out]
        refine Nat.le_trans (encL_length _ _) ?_
        rw [List.length_take]; omega
      have hstep := Lib.hid (encL_take (s := ⟨a, b, c, d⟩) hlt)
      have he1 := Lib.hid (enc1_plain _ _ hp.out l[k])
      obtain ⟨z, hz⟩ : ∃ z, l[k] = z := ⟨_, rfl⟩
      rw [hz] at hstep he1
      obtain ⟨y, hy⟩ : ∃ y, z.toNat = y := ⟨_, rfl⟩
      have hy256 : y < 256 := by rw [← hy]; exact UInt8.toNat_lt _
      obtain ⟨q, HQ⟩ : ∃ q, Hid ((WSet.mk p0 p1 p2 p3).has y = q) := ⟨_, Lib.hid rfl⟩
      rw [hy, HQ.out] at he1
      have hY := Lib.hid hy
      obtain ⟨N, hN⟩ : ∃ N, Hid (wr.heap.size = N) := ⟨_, Lib.hid rfl⟩
      have l1 := a0.lt
      go_upto_region 6 with fail
      refine wp_region_noPanic ?_
      refine wp_region_held_drew (S := fun wx => Below N wr wx ∧ wx.cell? ⟨w1.heap.size, 0, none⟩ = some (.int .u64 (p0.toNat : Int)) ∧ wx.cell? ⟨w1.heap.size, 1, none⟩ = some (.int .u64 (p1.toNat : Int)) ∧ wx.cell? ⟨w1.heap.size, 2, none⟩ = some (.int .u64 (p2.toNat : Int)) ∧ wx.cell? ⟨w1.heap.size, 3, none⟩ = some (.int .u64 (p3.toNat : Int))) (by kernel_rfl) ?_ (fun hHeld => ?_)
      focus ((try dsimp only); ((go_split_ands; refine held1 hN.out a0 l1 ?_; have hN := hN.out; repeat' (first | (with_reducible assumption) | (with_reducible exact Below.refl _ _) | (with_reducible refine Below.drew ?_) | (refine Below.transS (wx := ?_) hN ?_ ?_; rotate_left 2; assumption)))))
      try simp only [Act.put, List.setIfInBounds_toArray, List.set_cons_zero, List.set_cons_succ]
      refine wpAnyH_take (i := 0) (oi := { dst := some 15, op := Go.Op.load 25 (Go.Operand.tmp 5), type := 25, pos := "percent.go:75", after := #[], guard := none }) (v := ?_) rfl (by kernel_rfl) (by kernel_rfl) (by kernel_rfl) (fun _ _ _ h => h) (Or.inl ⟨by rfl, ?_⟩) (by assumption) ?_
      rotate_left
      focus ((intro w hSw; (try dsimp only at hSw); go_simp) <;> (with_reducible rfl))
      try simp only [Act.put, List.setIfInBounds_toArray, List.set_cons_zero, List.set_cons_succ]
      refine wpAnyH_take (i := 1) (oi := { dst := some 16, op := Go.Op.move (Go.Operand.tmp 0), type := 9, pos := "percent.go:75", after := #[], guard := none }) (v := ?_) rfl (by kernel_rfl) (by kernel_rfl) (by kernel_rfl) (fun _ _ _ h => h) (Or.inl ⟨by rfl, ?_⟩) (by assumption) ?_
      rotate_left
      focus ((intro w hSw; (try dsimp only at hSw); go_simp) <;> (with_reducible rfl))
      try simp only [Act.put, List.setIfInBounds_toArray, List.set_cons_zero, List.set_cons_succ]
      refine wpAnyH_take (i := 2) (oi := { dst := some 17, op := Go.Op.move (Go.Operand.tmp 7), type := 3, pos := "percent.go:75", after := #[], guard := none }) (v := ?_) rfl (by kernel_rfl) (by kernel_rfl) (by kernel_rfl) (fun _ _ _ h => h) (Or.inl ⟨by rfl, ?_⟩) (by assumption) ?_
      rotate_left
      focus ((intro w hSw; (try dsimp only at hSw); go_simp) <;> (with_reducible rfl))
      try simp only [Act.put, List.setIfInBounds_toArray, List.set_cons_zero, List.set_cons_succ]
      refine wpAnyH_take (i := 3) (oi := { dst := some 18, op := Go.Op.index 9 (Go.Operand.tmp 16) (Go.Operand.tmp 17), type := 5, pos := "percent.go:75", after := #[{ on := 1, ground := Go.Ground.data }, { on := 2, ground := Go.Ground.data }], guard := none }) (v := ?_) rfl (by kernel_rfl) (by kernel_rfl) (by kernel_rfl) (fun _ _ _ h => h) (Or.inl ⟨by rfl, ?_⟩) (by assumption) ?_
      rotate_left
      focus ((intro w hSw; (try dsimp only at hSw); go_simp) <;> (with_reducible rfl))
      try simp only [Act.put, List.setIfInBounds_toArray, List.set_cons_zero, List.set_cons_succ]
      refine wpAnyH_ready (rs := [4]) (by kernel_rfl) (by simp) ?_
      refine AllReadyH.cons (o := { dst := some 19, op := Go.Op.call { callee := Go.Callee.value (Go.Operand.func 62), args := #[Go.Operand.tmp 15, Go.Operand.tmp 18], argTypes := #[25, 5] }, type := 4, pos := "percent.go:75", after := #[{ on := 0, ground := Go.Ground.data }, { on := 3, ground := Go.Ground.data }], guard := none }) rfl (fun K hK => ?_) AllReadyH.nil
      go_simp
      (go_at_call 62; refine (has_any p0 p1 p2 p3 (y : Int) (by omega) (by omega) _).mono ?_; rintro e w' ⟨rfl, hb⟩; rw [Int.toNat_natCast, HQ.out])
      first | (go_wp2_with fail) | skip
      refine hK.out _ _ ?_ (fun hNew => ?_)
      focus ((try dsimp only); ((go_split_ands; refine held1 hN.out a0 l1 ?_; have hN := hN.out; repeat' (first | (with_reducible assumption) | (with_reducible exact Below.refl _ _) | (with_reducible refine Below.drew ?_) | (refine Below.transS (wx := ?_) hN ?_ ?_; rotate_left 2; assumption)))))
      clear hK K hHeld
      have hHeld := hNew
      clear hNew
      try simp only [Act.put, List.setIfInBounds_toArray, List.set_cons_zero, List.set_cons_succ]
      refine wpAnyH_done (by kernel_rfl) ?_ _
      refine NoPanic.normal ?_
      have hc : Below wr.heap.size wr _ := below_eq hN.out hHeld.1
      clear hHeld
      have a0 := a0.below hc a0.lt
      have hz0 := hc.size
      have hB := hB.trans (hc.mono hB.size)
      have hw2 := hB.size
      have hrow := bis_below hrow hc
      have hwb := bis_lt hrow
      clear hc hN HQ
      cases q
      · have hcell : (w'.alloc (.cells #[.int .u8 (y : Int)] 5)).cell? ⟨w'.heap.size, 0, none⟩ = some (.int .u8 (y : Int)) := cell_of_row _ _ 0 _ _ _ (heap_alloc_new w' _)
        go_wp2_with fail
        refine (pescape_any (w1.heap.size + 1) (w1.heap.size + 1) w'.heap.size 1 (Lib.byteCells o) y hy256 _ (bis_below hrow (below_alloc1 _ _)) (by rw [Lib.byteCells_length]; omega) (by simp; omega) hcell).mono ?_
        rintro e w2 ⟨rfl, h2, b2⟩
        have z2 := b2.size
        simp only [World.size_alloc] at z2
        clear hcell
        go_wp2_with fail
        go_roundw
        case rel =>
          refine ⟨k + 1, o ++ [37, hexU (y / 16), hexU (y % 16)], by omega, by go_num, ?_, ?_, (a0.alloc _).below b2 (by omega), (hB.alloc hw2 _).trans (b2.mono (by omega))⟩
          · refine Lib.hid ?_
            rw [hstep.out, he1.out, ho.out]; rfl
          · right
            rw [bytes_append]
            exact h2
        case measure => simp [intOf]; omega
      · go_wp2_with fail
        refine (writeByte_any (w1.heap.size + 1) (w1.heap.size + 1) (Lib.byteCells o) (y : Int) _ hrow (by rw [Lib.byteCells_length]; omega) (by omega)).mono ?_
        rintro e w2 ⟨rfl, h2, b2⟩
        have z2 := b2.size
        go_wp2_with fail
        go_roundw
        case rel =>
          refine ⟨k + 1, o ++ [z], by omega, by go_num, ?_, ?_, a0.below b2 (by omega), hB.trans (b2.mono (by omega))⟩
          · refine Lib.hid ?_
            rw [hstep.out, he1.out, ho.out]; rfl
          · right
            rw [bytes_append, show Lib.byteCells [z] = [.int .u8 (y : Int)] by rw [← hY.out]; rfl]
            exact h2
        case measure => simp [intOf]; omega
    · obtain rfl : k = l.length := by omega
      have hres : Hid (o = encL ⟨a, b, c, d⟩ l) := Lib.hid (by rw [ho.out, List.take_length])
      have hwb := bis_lt hrow
      have hw2 := hB.size
      clear ho
      go_wp2_with fail
      refine (string_any (w1.heap.size + 1) (w1.heap.size + 1) o _ hrow (by omega)).mono ?_
      rintro e w2 ⟨rfl, b2⟩
      go_wp2_with fail
      go_ret
      exact ⟨by rw [← hres.out]; rfl, hB.trans (b2.mono (by omega))⟩
end Go.Proofs.YtbbphchhdppipaaDoor
