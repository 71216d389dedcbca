/-
  The law BytesetLogic returns true, for every two sets. The table of math/bits must lie in its variable.
-/
import Derived.Test.YtbpnhiejmkeclaaDoorHeld
namespace Go.Proofs.YtbpnhiejmkeclaaDoor
open Go.RowKit
attribute [local go_sem] eq_sets w_0 w_1 w_2 w_3
theorem not_not (s : WSet) : s.not.not = s := by simp [WSet.not]
theorem and_not (s : WSet) : s.and s.not = ⟨0#64, 0#64, 0#64, 0#64⟩ := by simp [WSet.and, WSet.not]
theorem or_not (s : WSet) : s.or s.not = ⟨18446744073709551615#64, 18446744073709551615#64, 18446744073709551615#64, 18446744073709551615#64⟩ := by
  simp only [WSet.or, WSet.not, BitVec.or_not_self]
  rfl
theorem not_or (s t : WSet) : (s.or t).not = s.not.and t.not := by simp [WSet.or, WSet.not, WSet.and, BitVec.not_or]
theorem countP_compl {α : Type} (p q : α → Bool) : ∀ l : List α, (∀ x ∈ l, q x = !p x) → l.countP p + l.countP q = l.length
  | [], _ => rfl
  | x :: l, h => by
    have ih := countP_compl p q l fun y hy => h y (List.mem_cons_of_mem _ hy)
    have hx := h x List.mem_cons_self
    rw [List.countP_cons, List.countP_cons, hx, List.length_cons]
    cases p x <;> simp <;> omega
theorem pc_not (x : BitVec 64) : pc x + pc (~~~x) = 64 := by
  unfold pc bitsOf
  rw [countP_compl]
  · rfl
  · intro i hi
    have hi : i < 64 := by simpa using hi
    have e1 : x.toNat.testBit i = x.getLsbD i := rfl
    have e2 : (~~~x).toNat.testBit i = (~~~x).getLsbD i := rfl
    rw [e1, e2, BitVec.getLsbD_not]
    simp [hi]
theorem count_not (s : WSet) : countOf s + countOf s.not = 256 := by
  have h1 := pc_not s.a
  have h2 := pc_not s.b
  have h3 := pc_not s.c
  have h4 := pc_not s.d
  simp only [countOf, WSet.not]
  omega
set_option maxHeartbeats 4000000 in
theorem logic_any (a b c d e f g h : BitVec 64) (w : World) (hT : Tab w) (h0w : 0 < w.heap.size) :
    Calls Tryd.prog 7 #[.agg #[.int .u64 a.toNat, .int .u64 b.toNat, .int .u64 c.toNat, .int .u64 d.toNat], .agg #[.int .u64 e.toNat, .int .u64 f.toNat, .int .u64 g.toNat, .int .u64 h.toNat]] w fun e w' => e = .returned (.bool true) ∧ Below w.heap.size w w' := by
  go_enter Tryd.func7, Tryd.ntmps7
  go_wp2_with fail
  have b1 := (Blk.new w ⟨a, b, c, d⟩).alloc (.cells #[.int .u64 e.toNat, .int .u64 f.toNat, .int .u64 g.toNat, .int .u64 h.toNat] 24)
  have b2 := Blk.new (w.alloc (.cells #[.int .u64 a.toNat, .int .u64 b.toNat, .int .u64 c.toNat, .int .u64 d.toNat] 24)) ⟨e, f, g, h⟩
  have hB0 : Below w.heap.size w ((w.alloc (.cells #[.int .u64 a.toNat, .int .u64 b.toNat, .int .u64 c.toNat, .int .u64 d.toNat] 24)).alloc (.cells #[.int .u64 e.toNat, .int .u64 f.toNat, .int .u64 g.toNat, .int .u64 h.toNat] 24)) := by go_grown
  rw [World.size_alloc] at b2
  refine (known_any _ ((hT.below hB0 h0w)) (Nat.lt_of_lt_of_le h0w hB0.size)).mono ?_
  rintro x w1 ⟨rfl, hb⟩
  have b1 := b1.below hb b1.lt
  have b2 := b2.below hb b2.lt
  have hB := hB0.trans (hb.mono hB0.size)
  clear hb hB0
  have l1 := b1.lt
  have l2 := b2.lt
  have hz : w.heap.size ≤ w1.heap.size := hB.size
  obtain ⟨N, hN⟩ : ∃ N, Hid (w1.heap.size = N) := ⟨_, Lib.hid rfl⟩
  go_upto_region 2 with fail
  go_cut [6, 7] (fun p q wx => ∃ B C : Nat, p = .pointer (some ⟨B, 0, none⟩) ∧ q = .pointer (some ⟨C, 0, none⟩) ∧ Blk wx B (WSet.mk a b c d).not ∧ Blk wx C (WSet.mk e f g h).not ∧ Below w1.heap.size w1 wx)
  case first =>
    go_region_held3 (fun wx => Below N w1 wx ∧ wx.cell? ⟨w.heap.size, 0, none⟩ = some (.int .u64 (a.toNat : Int)) ∧ wx.cell? ⟨w.heap.size, 1, none⟩ = some (.int .u64 (b.toNat : Int)) ∧ wx.cell? ⟨w.heap.size, 2, none⟩ = some (.int .u64 (c.toNat : Int)) ∧ wx.cell? ⟨w.heap.size, 3, none⟩ = some (.int .u64 (d.toNat : Int)) ∧ wx.cell? ⟨w.heap.size + 1, 0, none⟩ = some (.int .u64 (e.toNat : Int)) ∧ wx.cell? ⟨w.heap.size + 1, 1, none⟩ = some (.int .u64 (f.toNat : Int)) ∧ wx.cell? ⟨w.heap.size + 1, 2, none⟩ = some (.int .u64 (g.toNat : Int)) ∧ wx.cell? ⟨w.heap.size + 1, 3, none⟩ = some (.int .u64 (h.toNat : Int)))
      ((go_split_ands; refine held2 hN.out b1 b2 l1 l2 ?_; have hN := hN.out; repeat' (first | (with_reducible assumption) | (with_reducible exact Below.refl _ _) | (with_reducible refine Below.drew ?_) | (with_reducible refine Below.allocS hN ?_) | (with_reducible refine Below.setCell ?_ ?_ _; rotate_left; ((try dsimp only); omega)) | (refine Below.transS (wx := ?_) hN ?_ ?_; rotate_left 2; assumption))))
      (first | (go_at_call 12; refine (not_any _ _ _ _ _).mono ?_; rintro e w' ⟨rfl, hb⟩; obtain ⟨hc1, hc2⟩ := bcell hb; have hs := hb.size; obtain ⟨hc3, hc4⟩ := bsize hb; (try simp only [World.size_alloc, World.size_drew] at hs); (try have e1 : w1.heap.size < w'.heap.size := by omega); (try have e2 : w1.heap.size ≠ w'.heap.size := by omega); (try have e3 : w1.heap.size + 1 < w'.heap.size := by omega); (try have e4 : w1.heap.size + 1 ≠ w'.heap.size := by omega)))
    all_goals (go_wp2_with fail; go_meet; refine ⟨_, _, rfl, rfl, ?_, ?_, ?_⟩; (all_goals (first | ((refine below_eq hN.out ?_; have hN := hN.out; repeat' (first | (with_reducible assumption) | (with_reducible exact Below.refl _ _) | (with_reducible refine Below.drew ?_) | (with_reducible refine Below.allocS hN ?_) | (with_reducible refine Below.setCell ?_ ?_ _; rotate_left; ((try dsimp only); omega)) | (refine Below.transS (wx := ?_) hN ?_ ?_; rotate_left 2; assumption))); done) | ((repeat' (first | (with_reducible assumption) | (with_reducible refine Blk.newS ?_ _; go_size) | (with_reducible refine Blk.new0S ?_; go_size) | (with_reducible refine Blk.allocS ?_) | (with_reducible refine Blk.drewS ?_) | (with_reducible refine Blk.storeS (s0 := .empty) ?_ _) | (with_reducible refine Blk.other ?_ _ ?_ _; rotate_left; ((try dsimp only); omega)) | (refine Blk.belowS (wx := ?_) ?_ ?_; rotate_left 2; assumption))); done))))
  case rest =>
    obtain ⟨B, C, rfl, rfl, bn, bm, hc⟩ := hcut
    have b1 := b1.below hc l1
    have b2 := b2.below hc l2
    have hB := hB.trans (hc.mono hz)
    clear hc hN l1 l2 hz
    obtain ⟨n0, n1, n2, n3, hn⟩ : ∃ n0 n1 n2 n3, Hid ((WSet.mk a b c d).not = ⟨n0, n1, n2, n3⟩) := ⟨_, _, _, _, Lib.hid rfl⟩
    obtain ⟨m0, m1, m2, m3, hm⟩ : ∃ m0 m1 m2 m3, Hid ((WSet.mk e f g h).not = ⟨m0, m1, m2, m3⟩) := ⟨_, _, _, _, Lib.hid rfl⟩
    rw [hn.out] at bn
    rw [hm.out] at bm
    obtain ⟨u0, u1, u2, u3, hu⟩ : ∃ u0 u1 u2 u3, Hid ((WSet.mk a b c d).or (WSet.mk e f g h) = ⟨u0, u1, u2, u3⟩) := ⟨_, _, _, _, Lib.hid rfl⟩
    obtain ⟨v0, v1, v2, v3, hv⟩ : ∃ v0 v1 v2 v3, Hid ((WSet.mk u0 u1 u2 u3).not = ⟨v0, v1, v2, v3⟩) := ⟨_, _, _, _, Lib.hid rfl⟩
    have hnn : Hid ((WSet.mk n0 n1 n2 n3).not = ⟨a, b, c, d⟩) := Lib.hid (by rw [← hn.out, not_not])
    have han : Hid ((WSet.mk a b c d).and (WSet.mk n0 n1 n2 n3) = ⟨0#64, 0#64, 0#64, 0#64⟩) := Lib.hid (by rw [← hn.out, and_not])
    obtain ⟨o0, o1, o2, o3, ho⟩ : ∃ o0 o1 o2 o3, Hid (WSet.empty.not = ⟨o0, o1, o2, o3⟩) := ⟨_, _, _, _, Lib.hid rfl⟩
    have hon : Hid ((WSet.mk a b c d).or (WSet.mk n0 n1 n2 n3) = ⟨o0, o1, o2, o3⟩) := Lib.hid (by rw [← ho.out, ← hn.out, or_not, q25])
    have hav : Hid ((WSet.mk n0 n1 n2 n3).and (WSet.mk m0 m1 m2 m3) = ⟨v0, v1, v2, v3⟩) := Lib.hid (by rw [← hv.out, ← hu.out, ← hn.out, ← hm.out, not_or])
    obtain ⟨k, hk⟩ : ∃ k, Hid (countOf ⟨a, b, c, d⟩ = k) := ⟨_, Lib.hid rfl⟩
    obtain ⟨l, hl⟩ : ∃ l, Hid (countOf ⟨n0, n1, n2, n3⟩ = l) := ⟨_, Lib.hid rfl⟩
    have hkl : k + l = 256 := by rw [← hk.out, ← hl.out, ← hn.out]; exact count_not _
    have hs : IntKind.i64.wrap ((k : Int) + (l : Int)) = 256 := by
      have : ((k : Int) + (l : Int)) = 256 := by omega
      rw [this]; decide
    clear hkl
    go_wp2_with fail
    refine (common_none _).mono ?_
    rintro x w3 ⟨rfl, hb⟩
    rw [ho.out]
    have b1 := b1.below hb b1.lt
    have b2 := b2.below hb b2.lt
    have bn := bn.below hb bn.lt
    have bm := bm.below hb bm.lt
    have hB := hB.trans (hb.mono hB.size)
    clear hb
    go_upto_region 4 with fail
    have b1 := b1.alloc (.cells #[.int .u64 o0.toNat, .int .u64 o1.toNat, .int .u64 o2.toNat, .int .u64 o3.toNat] 24)
    have b2 := b2.alloc (.cells #[.int .u64 o0.toNat, .int .u64 o1.toNat, .int .u64 o2.toNat, .int .u64 o3.toNat] 24)
    have bn := bn.alloc (.cells #[.int .u64 o0.toNat, .int .u64 o1.toNat, .int .u64 o2.toNat, .int .u64 o3.toNat] 24)
    have bm := bm.alloc (.cells #[.int .u64 o0.toNat, .int .u64 o1.toNat, .int .u64 o2.toNat, .int .u64 o3.toNat] 24)
    have ba := Blk.new w3 ⟨o0, o1, o2, o3⟩
    have hB := hB.alloc hB.size (.cells #[.int .u64 o0.toNat, .int .u64 o1.toNat, .int .u64 o2.toNat, .int .u64 o3.toNat] 24)
    obtain ⟨A, hA⟩ : ∃ A, w3.heap.size = A := ⟨_, rfl⟩
    obtain ⟨W, hW⟩ : ∃ W, w3.alloc (.cells #[.int .u64 o0.toNat, .int .u64 o1.toNat, .int .u64 o2.toNat, .int .u64 o3.toNat] 24) = W := ⟨_, rfl⟩
    rw [hA] at ba ⊢
    rw [hW] at ba b1 b2 bn bm hB ⊢
    clear hW hA
    have l1 := b1.lt
    have l2 := b2.lt
    have l3 := bn.lt
    have l4 := bm.lt
    have l5 := ba.lt
    obtain ⟨N, hN⟩ : ∃ N, Hid (W.heap.size = N) := ⟨_, Lib.hid rfl⟩
    go_region_held3 (fun wx => Below N W wx ∧ wx.cell? ⟨w.heap.size, 0, none⟩ = some (.int .u64 (a.toNat : Int)) ∧ wx.cell? ⟨w.heap.size, 1, none⟩ = some (.int .u64 (b.toNat : Int)) ∧ wx.cell? ⟨w.heap.size, 2, none⟩ = some (.int .u64 (c.toNat : Int)) ∧ wx.cell? ⟨w.heap.size, 3, none⟩ = some (.int .u64 (d.toNat : Int)) ∧ wx.cell? ⟨w.heap.size + 1, 0, none⟩ = some (.int .u64 (e.toNat : Int)) ∧ wx.cell? ⟨w.heap.size + 1, 1, none⟩ = some (.int .u64 (f.toNat : Int)) ∧ wx.cell? ⟨w.heap.size + 1, 2, none⟩ = some (.int .u64 (g.toNat : Int)) ∧ wx.cell? ⟨w.heap.size + 1, 3, none⟩ = some (.int .u64 (h.toNat : Int)) ∧ wx.cell? ⟨B, 0, none⟩ = some (.int .u64 (n0.toNat : Int)) ∧ wx.cell? ⟨B, 1, none⟩ = some (.int .u64 (n1.toNat : Int)) ∧ wx.cell? ⟨B, 2, none⟩ = some (.int .u64 (n2.toNat : Int)) ∧ wx.cell? ⟨B, 3, none⟩ = some (.int .u64 (n3.toNat : Int)) ∧ wx.cell? ⟨C, 0, none⟩ = some (.int .u64 (m0.toNat : Int)) ∧ wx.cell? ⟨C, 1, none⟩ = some (.int .u64 (m1.toNat : Int)) ∧ wx.cell? ⟨C, 2, none⟩ = some (.int .u64 (m2.toNat : Int)) ∧ wx.cell? ⟨C, 3, none⟩ = some (.int .u64 (m3.toNat : Int)) ∧ wx.cell? ⟨A, 0, none⟩ = some (.int .u64 (o0.toNat : Int)) ∧ wx.cell? ⟨A, 1, none⟩ = some (.int .u64 (o1.toNat : Int)) ∧ wx.cell? ⟨A, 2, none⟩ = some (.int .u64 (o2.toNat : Int)) ∧ wx.cell? ⟨A, 3, none⟩ = some (.int .u64 (o3.toNat : Int)))
      ((go_split_ands; refine held5 hN.out b1 b2 bn bm ba l1 l2 l3 l4 l5 ?_; have hN := hN.out; repeat' (first | (with_reducible assumption) | (with_reducible exact Below.refl _ _) | (with_reducible refine Below.drew ?_) | (with_reducible refine Below.allocS hN ?_) | (with_reducible refine Below.setCell ?_ ?_ _; rotate_left; ((try dsimp only); omega)) | (refine Below.transS (wx := ?_) hN ?_ ?_; rotate_left 2; assumption))))
      (first
        | (go_at_call 12; refine (not_any _ _ _ _ _).mono ?_; rintro e w' ⟨rfl, hb⟩; (first | rw [hnn.out] | rw [hv.out]))
        | (go_at_call 29; refine (common2_at ?_ ?_ ?_ ?_ ?_ ?_ ?_ ?_ _ _ (0, 0) ?_).mono ?_; rotate_left 8; (focus (repeat' (first | (with_reducible assumption) | (with_reducible refine heap_at ?_; go_size) | (with_reducible refine heap_up ?_) | (with_reducible refine heap_drew ?_) | (refine heap_belowS (wx := ?_) ?_ ?_; rotate_left 2; assumption)))); rintro e w' ⟨rfl, hb⟩; (first | rw [han.out] | rw [hav.out]))
        | (go_at_call 27; refine (union2_at ?_ ?_ ?_ ?_ ?_ ?_ ?_ ?_ _ _ (0, 0) ?_).mono ?_; rotate_left 8; (focus (repeat' (first | (with_reducible assumption) | (with_reducible refine heap_at ?_; go_size) | (with_reducible refine heap_up ?_) | (with_reducible refine heap_drew ?_) | (refine heap_belowS (wx := ?_) ?_ ?_; rotate_left 2; assumption)))); rintro e w' ⟨rfl, hb⟩; (first | rw [hon.out] | rw [hu.out]))
        | (go_at_call 16; refine (count_any _ _ _ _ _).mono ?_; rintro e w' ⟨rfl, hb⟩; (first | rw [hk.out] | rw [hl.out])))
    all_goals (go_wp2_with fail; go_ret; refine ⟨rfl, below_from hB hN.out ?_⟩; have hN := hN.out; repeat' (first | (with_reducible assumption) | (with_reducible exact Below.refl _ _) | (with_reducible refine Below.drew ?_) | (with_reducible refine Below.allocS hN ?_) | (with_reducible refine Below.setCell ?_ ?_ _; rotate_left; ((try dsimp only); omega)) | (refine Below.transS (wx := ?_) hN ?_ ?_; rotate_left 2; assumption)))
end Go.Proofs.YtbpnhiejmkeclaaDoor
