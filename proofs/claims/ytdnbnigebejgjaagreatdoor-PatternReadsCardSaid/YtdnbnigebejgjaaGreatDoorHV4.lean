/-
  The reference's reader of patterns: is, ok, wrong, for every text of at most 1000 bytes.
  The reference's Not and Ranges (stage 1), and the sets of its two abbreviations.
-/
import Derived.Test.YtdnbnigebejgjaaGreatDoorHQ11
import Derived.Test.YtdnbnigebejgjaaGreatDoorHV1
import Derived.BigQuiet
import Derived.Deep.QuietTactic
import Derived.Test.YtdnbnigebejgjaaGreatDoorHJU2
import Derived.IntWalk
namespace Go.Proofs.YtdnbnigebejgjaaGreatDoor
open Go.RowKit
/-- Block B holds the reference's reader of the text t, in the state s; x2 to x5: its tree. -/
def RF (w : World) (B : Nat) (t : List UInt8) (s : RS) (x2 x3 x4 x5 : Value) : Prop := s.k ≤ t.length + 1 ∧ t.length ≤ 1000 ∧ CBlk 67 w B [.string ⟨t.toArray⟩, .int .i64 (s.k : Int), x2, x3, x4, x5, .int .i64 (s.e : Int), .int .i64 (s.a : Int)]
section
variable {w w' : World} {B : Nat} {t : List UInt8} {s : RS} {x2 x3 x4 x5 : Value}
theorem RF.le (h : RF w B t s x2 x3 x4 x5) : s.k ≤ t.length + 1 := h.1
theorem RF.len (h : RF w B t s x2 x3 x4 x5) : t.length ≤ 1000 := h.2.1
theorem RF.lt (h : RF w B t s x2 x3 x4 x5) : B < w.heap.size := CBlk.lt h.2.2
theorem RF.cells (h : RF w B t s x2 x3 x4 x5) : w.cell? ⟨B, 0, none⟩ = some (.string ⟨t.toArray⟩) ∧ w.cell? ⟨B, 1, none⟩ = some (.int .i64 (s.k : Int)) ∧ w.cell? ⟨B, 6, none⟩ = some (.int .i64 (s.e : Int)) ∧ w.cell? ⟨B, 7, none⟩ = some (.int .i64 (s.a : Int)) :=
  ⟨CBlk.cell h.2.2 0 (by simp), CBlk.cell h.2.2 1 (by simp), CBlk.cell h.2.2 6 (by simp), CBlk.cell h.2.2 7 (by simp)⟩
theorem RF.cells2 (h : RF w B t s x2 x3 x4 x5) : w.cell? ⟨B, 2, none⟩ = some x2 ∧ w.cell? ⟨B, 3, none⟩ = some x3 ∧ w.cell? ⟨B, 4, none⟩ = some x4 ∧ w.cell? ⟨B, 5, none⟩ = some x5 :=
  ⟨CBlk.cell h.2.2 2 (by simp), CBlk.cell h.2.2 3 (by simp), CBlk.cell h.2.2 4 (by simp), CBlk.cell h.2.2 5 (by simp)⟩
theorem RF.free (h : RF w B t s x2 x3 x4 x5) (i : Nat) : w.frozen? ⟨B, i, none⟩ = false := CBlk.free h.2.2 i
theorem RF.below {n : Nat} (h : RF w B t s x2 x3 x4 x5) (hb : Below n w w') (hn : B < n) : RF w' B t s x2 x3 x4 x5 := ⟨h.1, h.2.1, CBlk.below h.2.2 hb hn⟩
theorem RF.kept {row : Option Nat} (h : RF w B t s x2 x3 x4 x5) (hg : w.grownBy w' row) (hne : some B ≠ row) : RF w' B t s x2 x3 x4 x5 := ⟨h.1, h.2.1, CBlk.kept h.2.2 hg hne⟩
theorem RF.drew (h : RF w B t s x2 x3 x4 x5) : RF w.drew B t s x2 x3 x4 x5 := h
theorem RF.alloc (h : RF w B t s x2 x3 x4 x5) (o : Obj) : RF (w.alloc o) B t s x2 x3 x4 x5 := ⟨h.1, h.2.1, CBlk.alloc h.2.2 o⟩
theorem RF.other (h : RF w B t s x2 x3 x4 x5) (p : Addr) (hp : p.block ≠ B) (v : Value) : RF (w.setCell p v) B t s x2 x3 x4 x5 := ⟨h.1, h.2.1, CBlk.other h.2.2 p hp v⟩
theorem RF.place (h : RF w B t s x2 x3 x4 x5) (n : Nat) (hn : n ≤ t.length + 1) : RF (w.setCell ⟨B, 1, none⟩ (.int .i64 (n : Int))) B t ⟨n, s.e, s.a⟩ x2 x3 x4 x5 := ⟨hn, h.2.1, CBlk.set h.2.2 1 _⟩
theorem RF.step (h : RF w B t s x2 x3 x4 x5) (hn : s.k ≤ t.length) : RF (w.setCell ⟨B, 1, none⟩ (.int .i64 ((s.k : Int) + 1))) B t ⟨s.k + 1, s.e, s.a⟩ x2 x3 x4 x5 := h.place (s.k + 1) (by omega)
theorem RF.fault (h : RF w B t s x2 x3 x4 x5) (e a : Nat) : RF ((w.setCell ⟨B, 6, none⟩ (.int .i64 (e : Int))).setCell ⟨B, 7, none⟩ (.int .i64 (a : Int))) B t ⟨s.k, e, a⟩ x2 x3 x4 x5 := ⟨h.1, h.2.1, (CBlk.set (CBlk.set h.2.2 6 (.int .i64 (e : Int))) 7 (.int .i64 (a : Int)))⟩
end
/-- Whether the next byte is b. -/
def isB (t : List UInt8) (k : Nat) (b : UInt8) : Bool := match t.drop k with
  | [] => false
  | c :: _ => c == b
theorem isB_out {t : List UInt8} {k : Nat} (b : UInt8) (h : t.length ≤ k) : isB t k b = false := by
  unfold isB
  rw [List.drop_eq_nil_of_le h]
theorem isB_in {t : List UInt8} {k : Nat} (b : UInt8) (h : k < t.length) : isB t k b = (t[k] == b) := by
  unfold isB
  rw [List.drop_eq_getElem_cons h]
theorem RF.drewN {w : World} {B : Nat} {t : List UInt8} {s : RS} {x2 x3 x4 x5 : Value} (h : RF w B t s x2 x3 x4 x5) (n : Nat) : RF (w.drewN n) B t s x2 x3 x4 x5 := h
theorem jgdrewN {a b : World} {row : Option Nat} (h : a.grownBy b row) (n : Nat) : a.grownBy (b.drewN n) row := ⟨h.os, h.tape, h.output, h.size, h.block⟩
set_option maxHeartbeats 1000000 in
theorem rIs_any (t : List UInt8) (s : RS) (x2 x3 x4 x5 : Value) (b : UInt8) (W : World) (B : Nat) (h : RF W B t s x2 x3 x4 x5) :
    Calls Tryz.prog 33 #[.pointer (some ⟨B, 0, none⟩), .int .u8 (b.toNat : Int)] W fun e w' => e = .returned (.bool (isB t s.k b)) ∧ ∃ m, w' = W.drewN m := by
  obtain ⟨c0, c1, c6, c7⟩ := h.cells
  by_cases hk : s.k < t.length
  · have a1 : decide ((s.k : Int) < (t.length : Int)) = true := decide_eq_true (by omega)
    have hx : s.k < (ByteArray.mk t.toArray).size := hk
    have g1 := ba_get t s.k hx
    have HR := Lib.hid (isB_in b hk)
    obtain ⟨c, hc⟩ : ∃ c, t[s.k] = c := ⟨_, rfl⟩
    rw [hc] at g1 HR
    have a3 : ((c.toNat : Int) == (b.toNat : Int)) = (c == b) := by
      by_cases e : c = b
      · subst e; simp
      · have : ¬ c.toNat = b.toNat := fun h => e (UInt8.toNat_inj.1 h)
        have h1 : ((c.toNat : Int) == (b.toNat : Int)) = false := by simpa using (by omega : ¬ (c.toNat : Int) = (b.toNat : Int))
        have h2 : (c == b) = false := by simpa using e
        rw [h1, h2]
    have hb2 : (s.k : Int) < (t.length : Int) := by omega
    go_enter Tryz.func33, Tryz.ntmps33
    go_wp2_with fail
    go_quiet (fail)
    go_wp2_with fail
    go_ret
    exact ⟨by rw [HR.out]; rfl, _, rfl⟩
  · have a1 : decide ((s.k : Int) < (t.length : Int)) = false := decide_eq_false (by omega)
    have HR := Lib.hid (isB_out b (by omega : t.length ≤ s.k))
    go_enter Tryz.func33, Tryz.ntmps33
    go_wp2_with fail
    go_quiet (fail)
    go_wp2_with fail
    go_ret
    exact ⟨by rw [HR.out]; rfl, _, rfl⟩
theorem rOk_any (t : List UInt8) (s : RS) (x2 x3 x4 x5 : Value) (W : World) (B : Nat) (h : RF W B t s x2 x3 x4 x5) :
    Calls Tryz.prog 35 #[.pointer (some ⟨B, 0, none⟩)] W fun e w' => e = .returned (.bool (decide (s.e = 0))) ∧ w' = W := by
  obtain ⟨c0, c1, c6, c7⟩ := h.cells
  have e0 : ((s.e : Int) == 0) = decide (s.e = 0) := by
    by_cases he : s.e = 0
    · simp [he]
    · have h1 : ((s.e : Int) == 0) = false := by simpa using he
      rw [h1, decide_eq_false he]
  go_enter Tryz.func35, Tryz.ntmps35
  go_wp2_with fail
  go_ret
  exact ⟨rfl, rfl⟩
set_option maxHeartbeats 1000000 in
theorem rWrong_any (t : List UInt8) (s : RS) (x2 x3 x4 x5 : Value) (e a : Nat) (W : World) (B : Nat) (h : RF W B t s x2 x3 x4 x5) :
    Calls Tryz.prog 36 #[.pointer (some ⟨B, 0, none⟩), .int .i64 (e : Int), .int .i64 (a : Int)] W fun x w' => x = .returned (.tuple #[]) ∧ RF w' B t (failR s e a) x2 x3 x4 x5 ∧ W.grownBy w' (some B) := by
  obtain ⟨c0, c1, c6, c7⟩ := h.cells
  have f6 := h.free 6
  have f7 := h.free 7
  by_cases he : s.e = 0
  · have HR : Hid (failR s e a = ⟨s.k, e, a⟩) := Lib.hid (if_pos he)
    have hd : decide (s.e = 0) = true := decide_eq_true he
    clear he
    go_enter Tryz.func36, Tryz.ntmps36
    go_wp2_with fail
    refine (rOk_any t s x2 x3 x4 x5 _ B h).mono ?_
    rintro z w1 ⟨rfl, hw⟩
    rw [hd, hw]
    clear hw
    go_wp2_with fail
    refine bodyPost_end (v := .tuple #[]) (by simp [Go.results, Tryz.results36, go_sem]) rfl ⟨rfl, ?_, ?_⟩
    · rw [HR.out]; exact h.fault e a
    · exact jgtrans (jgset W B 6 _) (jgset _ B 7 _)
  · have HR : Hid (failR s e a = s) := Lib.hid (if_neg he)
    have hd : decide (s.e = 0) = false := decide_eq_false he
    clear he
    go_enter Tryz.func36, Tryz.ntmps36
    go_wp2_with fail
    refine (rOk_any t s x2 x3 x4 x5 _ B h).mono ?_
    rintro z w1 ⟨rfl, hw⟩
    rw [hd, hw]
    clear hw
    go_wp2_with fail
    exact bodyPost_end (v := .tuple #[]) (by simp [Go.results, Tryz.results36, go_sem]) rfl ⟨rfl, by rw [HR.out]; exact h, jgrefl _ _⟩
end Go.Proofs.YtdnbnigebejgjaaGreatDoor
namespace Go.Proofs.YtdnbnigebejgjaaGreatDoor
open Go.RowKit
attribute [local go_sem] w_0 w_1 w_2 w_3
set_option maxHeartbeats 400000 in
theorem refNot_any (a b c d : BitVec 64) (w : World) :
    Calls Tryz.prog 108 #[.agg #[.int .u64 a.toNat, .int .u64 b.toNat, .int .u64 c.toNat, .int .u64 d.toNat]] w fun e w' => e = .returned (WSet.mk a b c d).not.v ∧ Below w.heap.size w w' := by
  have hs : IntKind.u64.signed = false := rfl
  have hm : IntKind.u64.max = 18446744073709551615 := rfl
  go_enter Tryz.func108, Tryz.ntmps108
  go_wp2
  go_rounds 6
  refine bodyPost_ret (v := (WSet.mk a b c d).not.v) (by simp [results, Tryz.results108, go_sem, bits_not, WSet.not]) rfl ⟨rfl, ?_⟩
  go_grown
set_option maxHeartbeats 2000000 in
theorem refRanges_any (p : Option Addr) (len cap : Nat) (lo hi : Nat → Nat) (hlen : len ≤ maxLen) (w : World) (hc : RangesIn w p len lo hi) :
    Calls Tryz.prog 131 #[.slice p len cap] w fun e w' => e = .returned (rangesR lo hi len) ∧ Below w.heap.size w w' := by
  unfold maxLen at hlen
  have HC := Lib.hid hc
  clear hc
  go_enter Tryz.func131, Tryz.ntmps131
  go_wp2_with fail
  go_loopw [5] (fun i wr => ∃ k : Nat, k ≤ len ∧ i = .int .i64 k ∧ Hid (badR lo hi k = false) ∧ Blk wr w.heap.size .empty ∧ Blk wr (w.heap.size + 1) (rangesTo lo hi k) ∧ Below w.heap.size w wr)
    (fun i _ => len - (intOf i).toNat)
  case atStart =>
    refine ⟨0, Nat.zero_le _, rfl, Lib.hid rfl, (Blk.new0 w).alloc _, ?_, ?_⟩
    · have := Blk.new0 (w.alloc (.cells #[.int .u64 0, .int .u64 0, .int .u64 0, .int .u64 0] 41))
      rw [World.size_alloc] at this
      exact this
    · go_grown
  case round =>
    obtain ⟨k, hk, rfl, hg, h1, h2, hB⟩ := hrel
    by_cases hlt : k < len
    · obtain ⟨hl1, hl2, b, off, rfl, hbw, q0, q1⟩ := HC.out k hlt
      obtain ⟨x, hx⟩ : ∃ x, lo k = x := ⟨_, rfl⟩
      obtain ⟨y, hy⟩ : ∃ y, hi k = y := ⟨_, rfl⟩
      have e0 := (hB.cell (p := ⟨b, off + k * 2, none⟩) hbw).trans q0
      have e1 := (hB.cell (p := ⟨b, off + k * 2 + 1, none⟩) hbw).trans q1
      rw [hx] at e0 hl1
      rw [hy] at e1 hl2
      have hxw : IntKind.i64.wrap (x : Int) = (x : Int) := IntWalk.i64_in _ (by omega)
      have hyw : IntKind.i64.wrap (y : Int) = (y : Int) := IntWalk.i64_in _ (by omega)
      by_cases hl3 : x ≤ y
      · have hg2 := Lib.hid (badR_step hg.out (by rw [hx, hy]; exact hl3))
        have hle : decide ((y : Int) < (x : Int)) = false := decide_eq_false (by omega)
        obtain ⟨r, hr⟩ : ∃ r, rangesTo lo hi k = r := ⟨_, rfl⟩
        have hr2 : Hid (rangesTo lo hi (k + 1) = r.or (spanTo x (y + 1 - x))) := Lib.hid (by rw [rangesTo, hr, hx, hy])
        rw [hr] at h2
        clear hr hx
        have hle2 : decide (y < x) = false := decide_eq_false (by omega)
        go_wp2_with fail
        go_region
        go_wp2_with fail
        go_loopw [6] (fun i wr => ∃ m : Nat, m ≤ y + 1 - x ∧ i = .int .i64 ((x + m : Nat) : Int) ∧ Blk wr w.heap.size .empty ∧ Blk wr (w.heap.size + 1) (r.or (spanTo x m)) ∧ Below w.heap.size w wr)
          (fun i _ => y + 1 - (intOf i).toNat)
        case atStart =>
          refine ⟨0, Nat.zero_le _, rfl, h1, ?_, hB.drew⟩
          show Blk _ _ (r.or .empty)
          rw [or_empty]
          exact h2
        case round =>
          obtain ⟨m, hm, rfl, h1, h2, hB⟩ := hrel
          have e1 := (hB.cell (p := ⟨b, off + k * 2 + 1, none⟩) hbw).trans q1
          rw [hy] at e1
          by_cases hm2 : x + m ≤ y
          · have hlm : decide (((x + m : Nat) : Int) ≤ (y : Int)) = true := decide_eq_true (by omega)
            obtain ⟨z, hz⟩ : ∃ z, x + m = z := ⟨_, rfl⟩
            have hz2 : z < 256 := by omega
            have hzw : IntKind.u8.wrap (z : Int) = (z : Int) := by rw [IntKind.wrap_u8']; omega
            have hs := Lib.hid (or_span_succ r x m (by omega))
            rw [hz] at hlm hs ⊢
            obtain ⟨t0, t1, t2, t3, ht⟩ : ∃ t0 t1 t2 t3, Hid (r.or (spanTo x m) = ⟨t0, t1, t2, t3⟩) := ⟨_, _, _, _, Lib.hid rfl⟩
            rw [ht.out] at h2 hs
            obtain ⟨s0, s1, s2, s3, hu⟩ : ∃ s0 s1 s2 s3, Hid ((WSet.mk t0 t1 t2 t3).add z = ⟨s0, s1, s2, s3⟩) := ⟨_, _, _, _, Lib.hid rfl⟩
            rw [hu.out] at hs
            obtain ⟨c0, c1, c2, c3⟩ := h2.cells
            go_wp2_with fail
            refine (refWith_any _ _ _ _ z hz2 _).mono ?_
            rintro e w5 ⟨rfl, hb⟩
            rw [hu.out]
            have h1 := h1.below hb h1.lt
            have h2 := h2.below hb h2.lt
            have hB := hB.trans (hb.mono hB.size)
            clear hb c0 c1 c2 c3
            obtain ⟨f0, f1, f2, f3⟩ := h2.frees
            obtain ⟨c0, c1, c2, c3⟩ := h2.cells
            go_wp2_with fail
            go_roundw
            case rel =>
              refine ⟨m + 1, by omega, by rw [show ((z : Int) + 1) = ((x + (m + 1) : Nat) : Int) by omega], ((((h1.other _ (by (try dsimp only); omega) _).other _ (by (try dsimp only); omega) _).other _ (by (try dsimp only); omega) _).other _ (by (try dsimp only); omega) _), ?_, Blk.belowStore ⟨s0, s1, s2, s3⟩ hB (by omega)⟩
              rw [hs.out]
              exact h2.store ⟨s0, s1, s2, s3⟩
            case measure => simp [intOf]; omega
          · obtain rfl : m = y + 1 - x := by omega
            have hlm : decide (((x + (y + 1 - x) : Nat) : Int) ≤ (y : Int)) = false := decide_eq_false (by omega)
            obtain ⟨z, hz⟩ : ∃ z, x + (y + 1 - x) = z := ⟨_, rfl⟩
            rw [hz] at hlm ⊢
            go_wp2_with fail
            go_roundw
            case rel =>
              refine ⟨k + 1, by omega, by go_num, hg2, h1, ?_, hB⟩
              rw [hr2.out]
              exact h2
            case measure => simp [intOf]; omega
      · have hr := Lib.hid (rangesR_bad (n := len) hlt (show hi k < lo k by omega))
        have hle : decide ((y : Int) < (x : Int)) = true := decide_eq_true (by omega)
        obtain ⟨f0, f1, f2, f3⟩ := h1.frees
        obtain ⟨d0, d1, d2, d3⟩ := h1.cells
        clear hx hy
        go_wp2_with fail
        go_region
        go_wp2_with fail
        exact bodyPost_ret ((h1.drew.store0).results2 rfl _ rfl _ rfl) rfl ⟨by rw [hr.out]; rfl, Blk.belowStore0 hB.drew (Nat.le_refl _)⟩
    · obtain rfl : k = len := by omega
      have hr := Lib.hid (rangesR_good hg.out)
      obtain ⟨c0, c1, c2, c3⟩ := h2.cells
      obtain ⟨d0, d1, d2, d3⟩ := h1.cells
      obtain ⟨f0, f1, f2, f3⟩ := h1.frees
      go_wp2_with fail
      exact bodyPost_ret ((h1.store (rangesTo lo hi k)).results2 rfl _ rfl _ rfl) rfl ⟨by rw [hr.out]; rfl, Blk.belowStore _ hB (Nat.le_refl _)⟩
theorem rng_cells {W : World} {B : Nat} {fr : Nat × Nat} {t : TypeId} (L : List (Nat × Nat)) (hL : ∀ r ∈ L, r.1 < 256 ∧ r.2 < 256) (hk : W.heap[B]? = some (.cells (L.flatMap fun r => [Value.int .u8 (r.1 : Int), Value.int .u8 (r.2 : Int)]).toArray t fr)) :
    RangesIn W (some ⟨B, 0, none⟩) L.length (fun j => (L.getD j (0, 0)).1) (fun j => (L.getD j (0, 0)).2) := by
  intro j hj
  have hm : L.getD j (0, 0) = L[j] := by rw [List.getD_eq_getElem?_getD, List.getElem?_eq_getElem hj]; rfl
  have h2 : ∀ (M : List (Nat × Nat)) (i : Nat) (h : i < M.length), (M.flatMap fun r => [Value.int .u8 (r.1 : Int), Value.int .u8 (r.2 : Int)])[i * 2]? = some (.int .u8 (M[i].1 : Int)) ∧ (M.flatMap fun r => [Value.int .u8 (r.1 : Int), Value.int .u8 (r.2 : Int)])[i * 2 + 1]? = some (.int .u8 (M[i].2 : Int)) := by
    intro M
    induction M with
    | nil => intro i h; cases h
    | cons x M ih =>
      intro i h
      cases i with
      | zero => exact ⟨rfl, rfl⟩
      | succ i =>
        have := ih i (by simpa using h)
        rw [show (i + 1) * 2 = i * 2 + 2 by omega, show i * 2 + 2 + 1 = (i * 2 + 1) + 2 by omega]
        exact this
  obtain ⟨e0, e1⟩ := h2 L j hj
  dsimp only
  rw [hm]
  refine ⟨(hL _ (List.getElem_mem hj)).1, (hL _ (List.getElem_mem hj)).2, B, 0, rfl, lt_of_block hk, ?_, ?_⟩
  · rw [cell_of_row _ _ _ _ _ _ hk, Nat.zero_add, List.getElem?_toArray, e0]
  · rw [cell_of_row _ _ _ _ _ _ hk, Nat.zero_add, List.getElem?_toArray, e1]
theorem span_eq (lo hi : UInt8) (h : lo.toNat ≤ hi.toNat) : rangesR (fun _ => lo.toNat) (fun _ => hi.toNat) 1 = .tuple #[(spanW lo hi).v, .int .i64 0] := by
  unfold rangesR spanW
  rw [if_pos h, if_neg (by simp [badR]; omega)]
  rfl
/-- Ranges of one range. -/
theorem refSpan_at (lo hi : UInt8) (W : World) (B : Nat) (fr : Nat × Nat) (hk : W.heap[B]? = some (.cells #[.int .u8 (lo.toNat : Int), .int .u8 (hi.toNat : Int)] 129 fr)) :
    Calls Tryz.prog 131 #[.slice (some ⟨B, 0, none⟩) 1 1] W fun e w' => (∃ z : Int, e = .returned (.tuple #[(spanW lo hi).v, .int .i64 z])) ∧ Below W.heap.size W w' := by
  have h1 := rng_cells (L := [(lo.toNat, hi.toNat)]) (fun r hr => by rw [List.mem_singleton.1 hr]; exact ⟨lo.toNat_lt, hi.toNat_lt⟩) hk
  have h2 : RangesIn W (some ⟨B, 0, none⟩) 1 (fun _ => lo.toNat) (fun _ => hi.toNat) := by
    intro j hj
    obtain rfl : j = 0 := by omega
    exact h1 0 (by simp)
  refine (refRanges_any (some ⟨B, 0, none⟩) 1 1 _ _ (by unfold maxLen; omega) W h2).mono ?_
  rintro e w' ⟨rfl, hb⟩
  refine ⟨?_, hb⟩
  by_cases hle : lo.toNat ≤ hi.toNat
  · exact ⟨_, by rw [span_eq lo hi hle]⟩
  · refine ⟨8, ?_⟩
    unfold rangesR spanW
    rw [if_pos (by simp [badR]; omega), if_neg hle]
def wordsR : List (Nat × Nat) := [(48, 57), (65, 90), (95, 95), (97, 122)]
theorem digits_eq : spanW 48 57 = setW digitsL := by decide +kernel
theorem words_eq : rangesTo (fun j => (wordsR.getD j (0, 0)).1) (fun j => (wordsR.getD j (0, 0)).2) 4 = setW wordsL := by decide +kernel
theorem words_ok : badR (fun j => (wordsR.getD j (0, 0)).1) (fun j => (wordsR.getD j (0, 0)).2) 4 = false := by decide +kernel
theorem refDigits_at (W : World) (B : Nat) (fr : Nat × Nat) (hk : W.heap[B]? = some (.cells #[.int .u8 48, .int .u8 57] 129 fr)) :
    Calls Tryz.prog 131 #[.slice (some ⟨B, 0, none⟩) 1 1] W fun e w' => e = .returned (.tuple #[(setW digitsL).v, .int .i64 0]) ∧ Below W.heap.size W w' := by
  have h1 := rng_cells (L := [(48, 57)]) (fun r hr => by rw [List.mem_singleton.1 hr]; decide) hk
  have h2 : RangesIn W (some ⟨B, 0, none⟩) 1 (fun _ => (48 : UInt8).toNat) (fun _ => (57 : UInt8).toNat) := by
    intro j hj
    obtain rfl : j = 0 := by omega
    exact h1 0 (by simp)
  refine (refRanges_any (some ⟨B, 0, none⟩) 1 1 _ _ (by unfold maxLen; omega) W h2).mono ?_
  rintro e w' ⟨rfl, hb⟩
  exact ⟨by rw [span_eq 48 57 (by decide), digits_eq], hb⟩
theorem refWords_at (W : World) (B : Nat) (fr : Nat × Nat) (hk : W.heap[B]? = some (.cells #[.int .u8 48, .int .u8 57, .int .u8 65, .int .u8 90, .int .u8 95, .int .u8 95, .int .u8 97, .int .u8 122] 129 fr)) :
    Calls Tryz.prog 131 #[.slice (some ⟨B, 0, none⟩) 4 4] W fun e w' => e = .returned (.tuple #[(setW wordsL).v, .int .i64 0]) ∧ Below W.heap.size W w' := by
  have h1 := rng_cells (L := wordsR) (fun r hr => by
    have : ∀ r ∈ wordsR, r.1 < 256 ∧ r.2 < 256 := by decide
    exact this r hr) hk
  refine (refRanges_any (some ⟨B, 0, none⟩) 4 4 _ _ (by unfold maxLen; omega) W h1).mono ?_
  rintro e w' ⟨rfl, hb⟩
  exact ⟨by rw [rangesR_good words_ok, words_eq], hb⟩
set_option maxHeartbeats 1000000 in
theorem digits19_any (W : World) : Calls Tryz.prog 124 #[] W fun e w' => e = .returned (setW digitsL).v ∧ Below W.heap.size W w' := by
  have r1 := Blk.new0 W
  have hB : Below W.heap.size W (W.alloc (.cells #[.int .u64 0, .int .u64 0, .int .u64 0, .int .u64 0] 41)) := (Below.refl _ W).alloc (Nat.le_refl _) _
  obtain ⟨X, hX⟩ : ∃ X, W.alloc (.cells #[.int .u64 0, .int .u64 0, .int .u64 0, .int .u64 0] 41) = X := ⟨_, rfl⟩
  have HU := Lib.hid refDigits_at
  obtain ⟨S, hS⟩ : ∃ S, setW digitsL = S := ⟨_, rfl⟩
  rw [hS] at HU ⊢
  obtain ⟨s0, s1, s2, s3⟩ := S
  rw [hX] at r1 hB
  have HX := Lib.hid hX
  clear hS hX
  go_enter Tryz.func124, Tryz.ntmps124
  go_upto_region 1 with fail
  rw [HX.out]
  have r2 := r1.alloc (.cells #[.int .u8 48, .int .u8 57] 129)
  have hB2 := hB.alloc hB.size (.cells #[.int .u8 48, .int .u8 57] 129)
  go_wp2_with fail
  refine (HU.out _ _ _ (heap_alloc_new X _)).mono ?_
  rintro e w2 ⟨rfl, hb2⟩
  have r3 := r2.below hb2 r2.lt
  have hB3 := hB2.trans (hb2.mono (by rw [World.size_alloc]; have := hB.size; omega))
  clear r1 r2 hb2 hB2
  go_upto_region 2 with fail
  have r4 := r3.alloc (.cells #[.int .u64 s0.toNat, .int .u64 s1.toNat, .int .u64 s2.toNat, .int .u64 s3.toNat] 41)
  have q4 := Blk.new w2 ⟨s0, s1, s2, s3⟩
  have hB4 := hB3.alloc hB3.size (.cells #[.int .u64 s0.toNat, .int .u64 s1.toNat, .int .u64 s2.toNat, .int .u64 s3.toNat] 41)
  dsimp only at q4
  generalize w2.alloc (.cells #[.int .u64 s0.toNat, .int .u64 s1.toNat, .int .u64 s2.toNat, .int .u64 s3.toNat] 41) = w4 at r4 q4 hB4 ⊢
  obtain ⟨c0, c1, c2, c3⟩ := q4.cells4
  obtain ⟨d0, d1, d2, d3⟩ := r4.cells
  obtain ⟨f0, f1, f2, f3⟩ := r4.frees
  go_wp2_with fail
  exact bodyPost_ret ((r4.store4 s0 s1 s2 s3).results rfl _ rfl) rfl ⟨rfl, Blk.below4 s0 s1 s2 s3 hB4 (Nat.le_refl _)⟩
set_option maxHeartbeats 1000000 in
theorem words19_any (W : World) : Calls Tryz.prog 125 #[] W fun e w' => e = .returned (setW wordsL).v ∧ Below W.heap.size W w' := by
  have r1 := Blk.new0 W
  have hB : Below W.heap.size W (W.alloc (.cells #[.int .u64 0, .int .u64 0, .int .u64 0, .int .u64 0] 41)) := (Below.refl _ W).alloc (Nat.le_refl _) _
  obtain ⟨X, hX⟩ : ∃ X, W.alloc (.cells #[.int .u64 0, .int .u64 0, .int .u64 0, .int .u64 0] 41) = X := ⟨_, rfl⟩
  have HU := Lib.hid refWords_at
  obtain ⟨S, hS⟩ : ∃ S, setW wordsL = S := ⟨_, rfl⟩
  rw [hS] at HU ⊢
  obtain ⟨s0, s1, s2, s3⟩ := S
  rw [hX] at r1 hB
  have HX := Lib.hid hX
  clear hS hX
  go_enter Tryz.func125, Tryz.ntmps125
  go_upto_region 1 with fail
  rw [HX.out]
  have r2 := r1.alloc (.cells #[.int .u8 48, .int .u8 57, .int .u8 65, .int .u8 90, .int .u8 95, .int .u8 95, .int .u8 97, .int .u8 122] 129)
  have hB2 := hB.alloc hB.size (.cells #[.int .u8 48, .int .u8 57, .int .u8 65, .int .u8 90, .int .u8 95, .int .u8 95, .int .u8 97, .int .u8 122] 129)
  go_wp2_with fail
  refine (HU.out _ _ _ (heap_alloc_new X _)).mono ?_
  rintro e w2 ⟨rfl, hb2⟩
  have r3 := r2.below hb2 r2.lt
  have hB3 := hB2.trans (hb2.mono (by rw [World.size_alloc]; have := hB.size; omega))
  clear r1 r2 hb2 hB2
  go_upto_region 2 with fail
  have r4 := r3.alloc (.cells #[.int .u64 s0.toNat, .int .u64 s1.toNat, .int .u64 s2.toNat, .int .u64 s3.toNat] 41)
  have q4 := Blk.new w2 ⟨s0, s1, s2, s3⟩
  have hB4 := hB3.alloc hB3.size (.cells #[.int .u64 s0.toNat, .int .u64 s1.toNat, .int .u64 s2.toNat, .int .u64 s3.toNat] 41)
  dsimp only at q4
  generalize w2.alloc (.cells #[.int .u64 s0.toNat, .int .u64 s1.toNat, .int .u64 s2.toNat, .int .u64 s3.toNat] 41) = w4 at r4 q4 hB4 ⊢
  obtain ⟨c0, c1, c2, c3⟩ := q4.cells4
  obtain ⟨d0, d1, d2, d3⟩ := r4.cells
  obtain ⟨f0, f1, f2, f3⟩ := r4.frees
  go_wp2_with fail
  exact bodyPost_ret ((r4.store4 s0 s1 s2 s3).results rfl _ rfl) rfl ⟨rfl, Blk.below4 s0 s1 s2 s3 hB4 (Nat.le_refl _)⟩
end Go.Proofs.YtdnbnigebejgjaaGreatDoor
