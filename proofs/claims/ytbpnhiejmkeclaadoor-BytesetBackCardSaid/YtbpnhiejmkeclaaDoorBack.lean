/-
  The law BytesetBack returns true, for every two sets. The table of math/bits must lie in its variable.
-/
import Derived.Test.YtbpnhiejmkeclaaDoorHeld
import Derived.Test.YtbpnhiejmkeclaaDoorBackLoop
import Derived.IntWalk
namespace Go.Proofs.YtbpnhiejmkeclaaDoor
open Go.RowKit
attribute [local go_sem] eq_sets w_0 w_1 w_2 w_3
theorem tab_at {N : Nat} {W wx : World} (hN : W.heap.size = N) (hT : Tab W) (h0 : 0 < W.heap.size) (hb : Below N W wx) : Tab wx := hT.below hb (hN ▸ h0)
theorem tab_ltN {N : Nat} {W wx : World} (h0 : 0 < W.heap.size) (hb : Below N W wx) : 0 < wx.heap.size := Nat.lt_of_lt_of_le h0 hb.size
set_option maxHeartbeats 4000000 in
theorem back_any (a b c d e f g h : BitVec 64) (w : World) (hT : Tab w) (h0w : 0 < w.heap.size) :
    Calls Tryd.prog 8 #[.agg #[.int .u64 a.toNat, .int .u64 b.toNat, .int .u64 c.toNat, .int .u64 d.toNat], .agg #[.int .u64 e.toNat, .int .u64 f.toNat, .int .u64 g.toNat, .int .u64 h.toNat]] w fun e w' => e = .returned (.bool true) ∧ Below w.heap.size w w' := by
  go_enter Tryd.func8, Tryd.ntmps8
  go_wp2_with fail
  have b1 := (Blk.new w ⟨a, b, c, d⟩).alloc (.cells #[.int .u64 e.toNat, .int .u64 f.toNat, .int .u64 g.toNat, .int .u64 h.toNat] 24)
  have b2 := Blk.new (w.alloc (.cells #[.int .u64 a.toNat, .int .u64 b.toNat, .int .u64 c.toNat, .int .u64 d.toNat] 24)) ⟨e, f, g, h⟩
  have hB0 : Below w.heap.size w ((w.alloc (.cells #[.int .u64 a.toNat, .int .u64 b.toNat, .int .u64 c.toNat, .int .u64 d.toNat] 24)).alloc (.cells #[.int .u64 e.toNat, .int .u64 f.toNat, .int .u64 g.toNat, .int .u64 h.toNat] 24)) := by go_grown
  rw [World.size_alloc] at b2
  refine (known_any _ ((hT.below hB0 h0w)) (Nat.lt_of_lt_of_le h0w hB0.size)).mono ?_
  rintro x w1 ⟨rfl, hb⟩
  have b1 := b1.below hb b1.lt
  have b2 := b2.below hb b2.lt
  have hB := hB0.trans (hb.mono hB0.size)
  clear hb hB0
  have hT1 := hT.below hB h0w
  have h01 := Nat.lt_of_lt_of_le h0w hB.size
  obtain ⟨c0, c1, c2, c3⟩ := b1.cells
  obtain ⟨l, hl⟩ : ∃ l, Hid ((textOf ⟨a, b, c, d⟩).map UInt8.ofNat = l) := ⟨_, Lib.hid rfl⟩
  obtain ⟨l2, hl2⟩ : ∃ l, Hid ((textOf ⟨e, f, g, h⟩).map UInt8.ofNat = l) := ⟨_, Lib.hid rfl⟩
  have hp : Hid (parseOf l = .ok ⟨a, b, c, d⟩) := Lib.hid (by rw [← hl.out]; exact parseOf_text _)
  have hlen : l.length < 9223372036854775807 := by
    have h1 := textOf_length ⟨a, b, c, d⟩
    have h2 := congrArg List.length hl.out
    rw [List.length_map] at h2
    omega
  have hne : Hid ((!(l == l2) == ((a.toNat : Int) == (e.toNat : Int) && ((b.toNat : Int) == (f.toNat : Int) && ((c.toNat : Int) == (g.toNat : Int) && ((d.toNat : Int) == (h.toNat : Int)))))) = false) := Lib.hid (by
    have h1 : l = l2 ↔ WSet.mk a b c d = ⟨e, f, g, h⟩ := by
      rw [← hl.out, ← hl2.out]
      exact ⟨fun e => text_inj _ _ (congrArg (fun x : List UInt8 => (⟨x.toArray⟩ : ByteArray)) e), fun e => by rw [e]⟩
    have h2 := decide_eq_sets ⟨a, b, c, d⟩ ⟨e, f, g, h⟩
    rw [← h2, show (l == l2) = decide (l = l2) by rw [Bool.eq_iff_iff]; simp, decide_eq_decide.2 h1]
    cases decide (WSet.mk a b c d = ⟨e, f, g, h⟩) <;> rfl)
  go_wp2_with fail
  refine (text_any _ _ _ _ _ hT1 h01).mono ?_
  rintro x w2 ⟨rfl, hb⟩
  rw [hl.out]
  have b1 := b1.below hb b1.lt
  have b2 := b2.below hb b2.lt
  have hT2 := hT1.below hb h01
  have h02 := Nat.lt_of_lt_of_le h01 hb.size
  have hB := hB.trans (hb.mono hB.size)
  clear hb c0 c1 c2 c3 hT1 h01
  have l1 := b1.lt
  have l2' := b2.lt
  obtain ⟨N, hN⟩ : ∃ N, Hid (w2.heap.size = N) := ⟨_, Lib.hid rfl⟩
  go_upto_region 3 with fail
  go_cut [30] (fun p wx => p = .bool false ∧ Below w2.heap.size w2 wx)
  case first =>
    go_region_held3 (fun wx => Below N w2 wx ∧ wx.cell? ⟨w.heap.size, 0, none⟩ = some (.int .u64 (a.toNat : Int)) ∧ wx.cell? ⟨w.heap.size, 1, none⟩ = some (.int .u64 (b.toNat : Int)) ∧ wx.cell? ⟨w.heap.size, 2, none⟩ = some (.int .u64 (c.toNat : Int)) ∧ wx.cell? ⟨w.heap.size, 3, none⟩ = some (.int .u64 (d.toNat : Int)) ∧ wx.cell? ⟨w.heap.size + 1, 0, none⟩ = some (.int .u64 (e.toNat : Int)) ∧ wx.cell? ⟨w.heap.size + 1, 1, none⟩ = some (.int .u64 (f.toNat : Int)) ∧ wx.cell? ⟨w.heap.size + 1, 2, none⟩ = some (.int .u64 (g.toNat : Int)) ∧ wx.cell? ⟨w.heap.size + 1, 3, none⟩ = some (.int .u64 (h.toNat : Int)))
      ((go_split_ands; refine held2 hN.out b1 b2 l1 l2' ?_; have hN := hN.out; repeat' (first | (with_reducible assumption) | (with_reducible exact Below.refl _ _) | (with_reducible refine Below.drew ?_) | (with_reducible refine Below.allocS hN ?_) | (with_reducible refine Below.setCell ?_ ?_ _; rotate_left; ((try dsimp only); omega)) | (refine Below.transS (wx := ?_) hN ?_ ?_; rotate_left 2; assumption))))
      (first
        | (go_at_call 39; refine (parses_ok l hlen _ _ _ _ hp.out _).mono ?_; rintro e w' ⟨rfl, hb⟩)
        | (go_at_call 33; refine (text_any _ _ _ _ _ (tab_at hN.out hT2 h02 ?_) (tab_ltN (N := N) h02 ?_)).mono ?_; rotate_left 2; rotate_right 2; (focus (have hN := hN.out; repeat' (first | (with_reducible assumption) | (with_reducible exact Below.refl _ _) | (with_reducible refine Below.drew ?_) | (with_reducible refine Below.allocS hN ?_) | (with_reducible refine Below.setCell ?_ ?_ _; rotate_left; ((try dsimp only); omega)) | (refine Below.transS (wx := ?_) hN ?_ ?_; rotate_left 2; assumption)))); (focus (have hN := hN.out; repeat' (first | (with_reducible assumption) | (with_reducible exact Below.refl _ _) | (with_reducible refine Below.drew ?_) | (with_reducible refine Below.allocS hN ?_) | (with_reducible refine Below.setCell ?_ ?_ _; rotate_left; ((try dsimp only); omega)) | (refine Below.transS (wx := ?_) hN ?_ ?_; rotate_left 2; assumption)))); rintro e w' ⟨rfl, hb⟩; rw [hl2.out]))
    all_goals (go_wp2_with fail; go_meet; refine ⟨congrArg Value.bool hne.out, ?_⟩; refine below_eq hN.out ?_; have hN := hN.out; repeat' (first | (with_reducible assumption) | (with_reducible exact Below.refl _ _) | (with_reducible refine Below.drew ?_) | (with_reducible refine Below.allocS hN ?_) | (with_reducible refine Below.setCell ?_ ?_ _; rotate_left; ((try dsimp only); omega)) | (refine Below.transS (wx := ?_) hN ?_ ?_; rotate_left 2; assumption)))
  case rest =>
  obtain ⟨rfl, hc⟩ := hcut
  have b1 := b1.below hc l1
  have b2 := b2.below hc l2'
  have hT3 := hT2.below hc h02
  have h03 := Nat.lt_of_lt_of_le h02 hc.size
  have hB := hB.trans (hc.mono hB.size)
  clear hc hN l1 l2' hT2 h02
  obtain ⟨c0, c1, c2, c3⟩ := b1.cells
  go_wp2_with fail
  refine (list_any _ _ _ _ _ hT3 h03).mono ?_
  rintro x w3 ⟨v, rfl, hrow, -, hb⟩
  obtain ⟨p, cap, rfl, hcell⟩ := owned_slice (fun x hx => upto_mem hx) hrow
  clear hrow c0 c1 c2 c3
  have hcount := Lib.hid (count_upto ⟨a, b, c, d⟩)
  have b1 := b1.below hb b1.lt
  have hT4 := hT3.below hb h03
  have h04 := Nat.lt_of_lt_of_le h03 hb.size
  have hB := hB.trans (hb.mono hB.size)
  clear hb hT3 h03 b2
  obtain ⟨M, hM⟩ : ∃ M, upto ⟨a, b, c, d⟩ 0 256 = M := ⟨_, rfl⟩
  rw [hM] at hcell hcount ⊢
  have hML : M.length ≤ 256 := by rw [← hM]; unfold upto; exact Nat.le_trans (List.length_filter_le _ _) (by rw [List.length_range]; omega)
  go_wp2_with fail
  go_loopw [8, 9] (fun z i wr => ∃ (k q : Nat) (zi : Int), k ≤ M.length ∧ i = .int .i64 k ∧ z = .int .i64 zi ∧ Hid (IntKind.i64.wrap (zi + 1) = (q : Int)) ∧ q ≤ 256 ∧ Hid (M.drop k = upto ⟨a, b, c, d⟩ q 256) ∧ Below w3.heap.size w3 wr)
    (fun z i _ => M.length - (intOf i).toNat)
  case atStart =>
    exact ⟨0, 0, -1, Nat.zero_le _, rfl, rfl, Lib.hid (by decide), by omega, Lib.hid hM.symm, Below.refl _ _⟩
  case round =>
    obtain ⟨k, q, zi, hk, rfl, rfl, hz, hq, hd, hc⟩ := hrel
    have b1 := b1.below hc b1.lt
    have hT5 := hT4.below hc h04
    have h05 := Nat.lt_of_lt_of_le h04 hc.size
    obtain ⟨c0, c1, c2, c3⟩ := b1.cells
    by_cases hlt : k < M.length
    · have hx := List.getElem?_eq_getElem hlt
      have hdr : M.drop k = M[k] :: M.drop (k + 1) := List.drop_eq_getElem_cons hlt
      obtain ⟨x, hxe⟩ : ∃ x, M[k] = x := ⟨_, rfl⟩
      rw [hxe] at hx hdr
      have hu : upto ⟨a, b, c, d⟩ q 256 = x :: M.drop (k + 1) := by rw [← hd.out, hdr]
      have hn := Lib.hid (nextOf_upto hu)
      have hr := Lib.hid (upto_rest hu)
      have hx256 : x < 256 := upto_mem (by rw [hu]; exact List.mem_cons_self)
      obtain ⟨g, rfl, hg, hcl⟩ := hcell k x hx
      have hxw : IntKind.i64.wrap (x : Int) = (x : Int) := IntWalk.i64_in _ (by omega)
      have hzw := hz.out
      clear hdr hu hx hcell hM hcount
      go_wp2_with fail
      refine (next_any _ _ _ _ _ (by omega) _ hT5 h05).mono ?_
      rintro y w5 ⟨rfl, hb5⟩
      rw [Int.toNat_natCast, hn.out]
      have hc5 := hc.trans (hb5.mono hc.size)
      have hcell5 := (hc5.cell (p := ⟨g, k, none⟩) hg).trans hcl
      clear hb5
      go_wp2_with fail
      go_roundw
      case rel =>
        refine ⟨k + 1, x + 1, x, by omega, by go_num, rfl, Lib.hid (IntWalk.i64_in _ (by omega)), by omega, hr, hc5⟩
      case measure => simp [intOf]; omega
    · obtain rfl : k = M.length := by omega
      have hu : upto ⟨a, b, c, d⟩ q 256 = [] := by rw [← hd.out, List.drop_length]
      have hn := Lib.hid (nextOf_none hu)
      have hzw := hz.out
      clear hu hcell hM
      go_wp2_with fail
      refine (next_any _ _ _ _ _ (by omega) _ hT5 h05).mono ?_
      rintro y w5 ⟨rfl, hb5⟩
      rw [Int.toNat_natCast, hn.out]
      have hc5 := hc.trans (hb5.mono hc.size)
      have b1 := b1.below hb5 b1.lt
      clear hb5 c0 c1 c2 c3
      obtain ⟨c0, c1, c2, c3⟩ := b1.cells
      go_wp2_with fail
      refine (count_any _ _ _ _ _).mono ?_
      rintro y w6 ⟨rfl, hb6⟩
      rw [← hcount.out]
      go_wp2_with fail
      go_ret
      exact ⟨rfl, (hB.trans (hc5.mono hB.size)).trans (hb6.mono (Nat.le_trans hB.size hc5.size))⟩
end Go.Proofs.YtbpnhiejmkeclaaDoor
