/-
  The reference's Alphabet for any nodes.
-/
import Derived.Test.YtdnbnigebejgjaaGreatDoorHJW10
import Derived.Deep.RegionWith
namespace Go.Proofs.YtdnbnigebejgjaaGreatDoor
open Go.RowKit Go.Shelf
attribute [local go_sem] w_0 w_1 w_2 w_3
theorem sets2 {W : World} {B : Nat} {fr : Nat × Nat} (x0 x1 x2 x3 y0 y1 y2 y3 : BitVec 64) (hk : W.heap[B]? = some (.cells #[.int .u64 x0.toNat, .int .u64 x1.toNat, .int .u64 x2.toNat, .int .u64 x3.toNat, .int .u64 y0.toNat, .int .u64 y1.toNat, .int .u64 y2.toNat, .int .u64 y3.toNat] 41 fr)) :
    SetsAt W B 0 2 (pairF (WSet.mk x0 x1 x2 x3) (WSet.mk y0 y1 y2 y3)) := by
  intro j hj i hi
  rw [cell_of_row _ _ _ _ _ _ hk]
  match j, hj, i, hi with
  | 0, _, 0, _ => rfl
  | 0, _, 1, _ => rfl
  | 0, _, 2, _ => rfl
  | 0, _, 3, _ => rfl
  | 1, _, 0, _ => rfl
  | 1, _, 1, _ => rfl
  | 1, _, 2, _ => rfl
  | 1, _, 3, _ => rfl
theorem refUnion2_at (x0 x1 x2 x3 y0 y1 y2 y3 : BitVec 64) (W : World) (B : Nat) (fr : Nat × Nat) (hk : W.heap[B]? = some (.cells #[.int .u64 x0.toNat, .int .u64 x1.toNat, .int .u64 x2.toNat, .int .u64 x3.toNat, .int .u64 y0.toNat, .int .u64 y1.toNat, .int .u64 y2.toNat, .int .u64 y3.toNat] 41 fr)) :
    Calls Tryz.prog 44 #[.slice (some ⟨B, 0, none⟩) 2 2] W fun e w' => e = .returned ((WSet.mk x0 x1 x2 x3).or (WSet.mk y0 y1 y2 y3)).v ∧ Below W.heap.size W w' := by
  refine (refUnion_any (some ⟨B, 0, none⟩) 2 2 (pairF (WSet.mk x0 x1 x2 x3) (WSet.mk y0 y1 y2 y3)) (by unfold maxLen; omega) _ ?_).mono ?_
  · intro j hj
    exact ⟨B, 0, rfl, lt_of_block hk, fun i hi => sets2 _ _ _ _ _ _ _ _ hk j hj i hi⟩
  · rintro e w' ⟨rfl, hb⟩
    exact ⟨by rw [orTo_pair], hb⟩
theorem Blk.store4 {w : World} {B : Nat} {s0 : WSet} (h : Blk w B s0) (a b c d : BitVec 64) : Blk ((((w.setCell ⟨B, 0, none⟩ (.int .u64 (a.toNat : Int))).setCell ⟨B, 1, none⟩ (.int .u64 (b.toNat : Int))).setCell ⟨B, 2, none⟩ (.int .u64 (c.toNat : Int))).setCell ⟨B, 3, none⟩ (.int .u64 (d.toNat : Int))) B ⟨a, b, c, d⟩ := h.store ⟨a, b, c, d⟩
theorem Blk.below4 {w wr : World} {B n : Nat} (a b c d : BitVec 64) (hB : Below n w wr) (h : n ≤ B) : Below n w ((((wr.setCell ⟨B, 0, none⟩ (.int .u64 (a.toNat : Int))).setCell ⟨B, 1, none⟩ (.int .u64 (b.toNat : Int))).setCell ⟨B, 2, none⟩ (.int .u64 (c.toNat : Int))).setCell ⟨B, 3, none⟩ (.int .u64 (d.toNat : Int))) := Blk.belowStore ⟨a, b, c, d⟩ hB h
theorem Blk.cells4 {w : World} {B : Nat} {a b c d : BitVec 64} (h : Blk w B ⟨a, b, c, d⟩) : w.cell? ⟨B, 0, none⟩ = some (.int .u64 (a.toNat : Int)) ∧ w.cell? ⟨B, 1, none⟩ = some (.int .u64 (b.toNat : Int)) ∧ w.cell? ⟨B, 2, none⟩ = some (.int .u64 (c.toNat : Int)) ∧ w.cell? ⟨B, 3, none⟩ = some (.int .u64 (d.toNat : Int)) := h.cells
theorem refUnion2_h (x0 x1 x2 x3 y0 y1 y2 y3 a b c d : BitVec 64) (h : Hid ((WSet.mk x0 x1 x2 x3).or (WSet.mk y0 y1 y2 y3) = ⟨a, b, c, d⟩)) (W : World) (B : Nat) (fr : Nat × Nat) (hk : W.heap[B]? = some (.cells #[.int .u64 x0.toNat, .int .u64 x1.toNat, .int .u64 x2.toNat, .int .u64 x3.toNat, .int .u64 y0.toNat, .int .u64 y1.toNat, .int .u64 y2.toNat, .int .u64 y3.toNat] 41 fr)) :
    Calls Tryz.prog 44 #[.slice (some ⟨B, 0, none⟩) 2 2] W fun e w' => e = .returned (WSet.mk a b c d).v ∧ Below W.heap.size W w' := by
  have hc := refUnion2_at x0 x1 x2 x3 y0 y1 y2 y3 W B fr hk
  rw [h.out] at hc
  exact hc
/-- The union of the sets of nodes. -/
def alO (L : List ND) : WSet := L.foldl (fun s n => s.or n.set) .empty
/-- What Alphabet says. -/
def alpR (L : List ND) (g : Int) : WSet × Int := if chkR L g = 0 then (alO L, 0) else (.empty, chkR L g)
theorem alO_snoc {L : List ND} {i : Nat} (h : i < L.length) : alO (L.take (i + 1)) = (alO (L.take i)).or L[i].set := by
  rw [List.take_add_one, List.getElem?_eq_getElem h]
  unfold alO
  rw [List.foldl_append]
  rfl
set_option maxHeartbeats 8000000 in
set_option maxRecDepth 100000 in
theorem alphabet19_any (L : List ND) (hL : L.length < 100000) (v : Value) (bb en : Bool) (g : Int) (W : World) (h : NdsAt W v L) :
    Calls Tryz.prog 18 #[.agg #[v, .bool bb, .bool en, .int .i64 g]] W fun e w' => e = .returned (.tuple #[(alpR L g).1.v, .int .i64 (alpR L g).2]) ∧ Below W.heap.size W w' := by
  obtain ⟨W1, hW1⟩ : ∃ W1, (W.alloc (.cells #[v, .bool bb, .bool en, .int .i64 g] 25)).alloc (.cells #[.int .u64 0, .int .u64 0, .int .u64 0, .int .u64 0] 41) = W1 := ⟨_, rfl⟩
  have hB1 : Below W.heap.size W W1 := by rw [← hW1]; exact ((Below.refl _ W).alloc (Nat.le_refl _) _).alloc (by simp) _
  have s1 : CBlk 25 W1 W.heap.size [v, .bool bb, .bool en, .int .i64 g] := by rw [← hW1]; exact (CBlk.new _ W _).alloc _
  have r1 : Blk W1 (W.heap.size + 1) .empty := by
    rw [← hW1]
    have := Blk.new0 (W.alloc (.cells #[v, .bool bb, .bool en, .int .i64 g] 25))
    rw [World.size_alloc] at this
    exact this
  have hz1 : W1.heap.size = W.heap.size + 2 := by rw [← hW1]; simp
  have HC := Lib.hid (refCheck_any L (by omega) v bb en g W1 (h.below hB1 (Nat.le_refl _)))
  obtain ⟨t0, t1, t2, t3⟩ : W1.cell? ⟨W.heap.size, 0, none⟩ = _ ∧ W1.cell? ⟨W.heap.size, 1, none⟩ = _ ∧ W1.cell? ⟨W.heap.size, 2, none⟩ = _ ∧ W1.cell? ⟨W.heap.size, 3, none⟩ = _ := ⟨s1.cell 0 (by simp), s1.cell 1 (by simp), s1.cell 2 (by simp), s1.cell 3 (by simp)⟩
  obtain ⟨c, hc⟩ : ∃ c, chkR L g = c := ⟨_, rfl⟩
  rw [hc] at HC
  by_cases h0 : c = 0
  · subst h0
    have HR : Hid (alpR L g = (alO L, 0)) := Lib.hid (by unfold alpR; rw [if_pos hc])
    obtain ⟨b, off, cap, rfl, hb, hN⟩ := tree_open hc h
    have HN := Lib.hid hN
    have HB := Lib.hid hb
    clear hN hb h hc
    go_enter Tryz.func18, Tryz.ntmps18
    go_wp2_with fail
    refine HC.out.mono ?_
    rintro e w2 ⟨rfl, hB2⟩
    have s2 := s1.below hB2 s1.lt
    have r2 := r1.below hB2 r1.lt
    have hBW := hB1.trans (hB2.mono (by omega))
    obtain ⟨N1, hN1⟩ : ∃ N1, w2.heap.size = N1 := ⟨_, rfl⟩
    have hN1W : W.heap.size + 1 < N1 := by have := hB2.size; omega
    clear s1 r1 hB1 hB2 t0 t1 t2 t3 HC hz1 hW1
    go_upto_region 5 with fail
    generalize hW0 : w2.alloc (.cells #[.int .u64 0, .int .u64 0, .int .u64 0, .int .u64 0] 41) = W0
    have s3 : CBlk 25 W0 W.heap.size [.slice (some ⟨b, off, none⟩) L.length cap, .bool bb, .bool en, .int .i64 g] := by rw [← hW0]; exact s2.alloc _
    have r3 : Blk W0 (W.heap.size + 1) .empty := by rw [← hW0]; exact r2.alloc _
    have q3 : Blk W0 N1 .empty := by rw [← hW0, ← hN1]; exact Blk.new0 w2
    have hB3 : Below W.heap.size W W0 := by rw [← hW0]; exact hBW.alloc hBW.size _
    clear hW0 s2 r2 hBW hN1
    have HNW := Lib.hid hN1W
    clear hN1W
    go_wp2_with fail
    go_loopw [6] (fun iv wr => ∃ i : Nat, i ≤ L.length ∧ iv = .int .i64 i ∧ Hid (CBlk 25 wr W.heap.size [.slice (some ⟨b, off, none⟩) L.length cap, .bool bb, .bool en, .int .i64 g]) ∧ Blk wr (W.heap.size + 1) .empty ∧ Blk wr N1 (alO (L.take i)) ∧ Below W.heap.size W wr) (fun iv _ => L.length - (intOf iv).toNat)
    case atStart => exact ⟨0, Nat.zero_le _, rfl, Lib.hid s3, r3, q3, hB3⟩
    case round =>
      clear s3 r3 q3 hB3
      obtain ⟨i, hi, rfl, hs, h1, h2, hB⟩ := hrel
      by_cases hil : i < L.length
      · have b1 : (i : Int) < (L.length : Int) := by omega
        have b2 : decide ((i : Int) < (L.length : Int)) = true := decide_eq_true b1
        have wi : IntKind.i64.wrap ((i : Int) + 1) = (i : Int) + 1 := jwrap (by omega) (by omega)
        have hst := alO_snoc hil
        have hND : NdsIn wr.drew (some ⟨b, off, none⟩) L := CellsIn.below HN.out hB.drew (Nat.le_refl _)
        obtain ⟨_, _, m2, m3, m4, m5, _, _, _⟩ := ndV_cells hND hil
        obtain ⟨nd, hnd⟩ : ∃ n, L[i] = n := ⟨_, rfl⟩
        rw [hnd] at m2 m3 m4 m5 hst
        obtain ⟨kd, tm, ⟨o0, o1, o2, o3⟩, gp, x0, nx0⟩ := nd
        dsimp only at m2 m3 m4 m5 hst
        obtain ⟨u0, u1, u2, u3, ht⟩ : ∃ t0 t1 t2 t3, Hid (alO (L.take i) = ⟨t0, t1, t2, t3⟩) := ⟨_, _, _, _, Lib.hid rfl⟩
        obtain ⟨v0, v1, v2, v3, hu⟩ : ∃ y0 y1 y2 y3, Hid ((WSet.mk u0 u1 u2 u3).or (WSet.mk o0 o1 o2 o3) = ⟨y0, y1, y2, y3⟩) := ⟨_, _, _, _, Lib.hid rfl⟩
        have HS : Hid (alO (L.take (i + 1)) = ⟨v0, v1, v2, v3⟩) := Lib.hid (by rw [hst, ht.out, hu.out])
        rw [ht.out] at h2
        have HU := Lib.hid (refUnion2_h u0 u1 u2 u3 o0 o1 o2 o3 v0 v1 v2 v3 hu)
        have c0 := hs.out.cell 0 (by simp)
        have d0 := hs.out.drew.cell 0 (by simp)
        obtain ⟨c50, c51, c52, c53⟩ := h2.drew.cells4
        have l2 := h2.lt
        have l1 := h1.lt
        clear hst hnd ht hu
        go_wp2_with fail
        go_region_with (go_at_call 44; refine (HU.out (wr.alloc _).drew _ _ (heap_alloc_new wr _)).mono ?_; rintro e w6 ⟨rfl, hb6⟩; have z6 := Lib.hid ((hs.out.alloc _).drew.below hb6 (hs.out.alloc _).lt); have y6 := (h1.alloc _).drew.below hb6 (h1.alloc _).lt; have b6 := (h2.alloc _).drew.below hb6 (h2.alloc _).lt; have hB6 := (hB.alloc hB.size _).drew.trans (hb6.mono (by have := hB.size; simp; omega)); clear hb6; obtain ⟨c60, c61, c62, c63⟩ := b6.cells4; obtain ⟨f60, f61, f62, f63⟩ := b6.frees; have l6 := b6.lt)
        all_goals
          go_wp2_with fail
          go_roundw
          case rel => exact ⟨i + 1, by omega, by go_num, Lib.hid ((((z6.out.other _ (by have := HNW.out; (try dsimp only); omega) _).other _ (by have := HNW.out; (try dsimp only); omega) _).other _ (by have := HNW.out; (try dsimp only); omega) _).other _ (by have := HNW.out; (try dsimp only); omega) _), (((y6.other _ (by have := HNW.out; (try dsimp only); omega) _).other _ (by have := HNW.out; (try dsimp only); omega) _).other _ (by have := HNW.out; (try dsimp only); omega) _).other _ (by have := HNW.out; (try dsimp only); omega) _, by rw [HS.out]; exact b6.store4 v0 v1 v2 v3, Blk.below4 v0 v1 v2 v3 hB6 (by have := HNW.out; omega)⟩
          case measure => simp [intOf]; omega
      · obtain rfl : i = L.length := by omega
        have b2 : decide ((L.length : Int) < (L.length : Int)) = false := decide_eq_false (by omega)
        rw [List.take_length] at h2
        obtain ⟨S, hS⟩ : ∃ S, alO L = S := ⟨_, rfl⟩
        rw [hS] at h2 HR
        obtain ⟨e0, e1, e2, e3⟩ := h2.cells
        obtain ⟨c0, c1, c2, c3⟩ := h1.cells
        obtain ⟨f0, f1, f2, f3⟩ := h1.frees
        have d0 := hs.out.cell 0 (by simp)
        clear hS
        go_wp2_with fail
        refine bodyPost_ret ((h1.store S).results2 rfl _ rfl _ rfl) rfl ⟨by rw [HR.out]; rfl, Blk.belowStore _ hB (by omega)⟩
  · have HR : Hid (alpR L g = (.empty, c)) := Lib.hid (by unfold alpR; rw [hc, if_neg h0])
    have a1 : (c == 0) = false := by simpa using h0
    have a2 : (c != 0) = true := by simpa using h0
    obtain ⟨f0, f1, f2, f3⟩ := r1.frees
    clear h0 hc
    go_enter Tryz.func18, Tryz.ntmps18
    go_wp2_with fail
    refine HC.out.mono ?_
    rintro e w2 ⟨rfl, hB2⟩
    have r2 := r1.below hB2 r1.lt
    obtain ⟨c0, c1, c2, c3⟩ := r2.cells
    obtain ⟨f0, f1, f2, f3⟩ := r2.frees
    have hB3 := hB1.trans (hB2.mono (by omega))
    go_wp2
    exact bodyPost_ret (r2.store0.results2 rfl _ rfl _ rfl) rfl ⟨by rw [HR.out]; rfl, Blk.belowStore0 hB3 (by omega)⟩
end Go.Proofs.YtdnbnigebejgjaaGreatDoor
