/-
  Slices of bytes that the call's own memory holds: what an append, a call and a conversion to a string make of them. No condition.
  Sets by their bytes: which bytes are in a union, in a set with a byte more, in a span. No condition.
  The reference's Ranges and the program's Ranges for all slices (nil ones, too): they return the same set, or the same error.
-/
import Derived.Maps.AppendAt
import Derived.Deep.AppendLies
import Derived.Deep.RegionLaw
import Derived.Deep.RegionHeld3
import Derived.Test.YtdnbnigebejgjaaGreatDoorHTz
import Derived.Test.YtdnbnigebejgjaaGreatDoorHRun
namespace Go.Proofs.YtdnbnigebejgjaaGreatDoor
open Go.RowKit
theorem belowGrown {W W' : World} (h : Below W.heap.size W W') : W.grownBy W' none := ⟨h.os, h.tape, h.output, h.size, fun k hk _ => h.block k hk⟩
theorem below_grown {n : Nat} {w W W' : World} {row : Option Nat} (hB : Below n w W) (hn : n ≤ W.heap.size) (hg : W.grownBy W' row) (hr : ∀ r, row = some r → n ≤ r) : Below n w W' :=
  hB.trans ⟨hg.os, hg.tape, hg.output, hg.size, fun k hk => hg.block k (Nat.lt_of_lt_of_le hk hn) (fun e => by have := hr k e.symm; omega)⟩
theorem own_ge {W : World} {base : Nat} {e : TypeId} {size n : Nat} {v : Value} {xs : List Value} (h : W.ownsRow base e size v n xs) (m : Nat) (hm : m ≤ base) : ∀ r, v.ownBlock = some r → m ≤ r := fun r hr => Nat.le_trans hm (h.lt r hr).1
theorem own_below {W W' : World} {base : Nat} {e : TypeId} {size n : Nat} {v : Value} {xs : List Value} (h : W.ownsRow base e size v n xs) (hb : Below W.heap.size W W') : W'.ownsRow base e size v n xs := h.kept (belowGrown hb) (Decidable.em _)
theorem own_down {W : World} {base base' : Nat} {e : TypeId} {size n : Nat} {v : Value} {xs : List Value} (h : W.ownsRow base e size v n xs) (hb : base' ≤ base) : W.ownsRow base' e size v n xs :=
  ⟨h.1, h.2.imp id fun ⟨g, cap, cur, e1, e2, e3⟩ => ⟨g, cap, cur, e1, Nat.le_trans hb e2, e3⟩⟩
theorem w_0 (a b c d : BitVec 64) : (WSet.mk a b c d).w 0 = a := rfl
theorem w_1 (a b c d : BitVec 64) : (WSet.mk a b c d).w 1 = b := rfl
theorem w_2 (a b c d : BitVec 64) : (WSet.mk a b c d).w 2 = c := rfl
theorem w_3 (a b c d : BitVec 64) : (WSet.mk a b c d).w 3 = d := rfl
def encU (b : UInt8) : Value := .int .u8 (b.toNat : Int)
theorem owned_text {W : World} {base : Nat} {v : Value} {L : List UInt8} (h : W.ownsRow base 5 1 v L.length (L.map encU)) : (convert 103 9 v).run Tryz.prog W = .ok (.string ⟨L.toArray⟩) W := by
  rcases h.2 with ⟨rfl, h0⟩ | ⟨g, cap, cur, rfl, hg, hh, h1, h2, h3, h4⟩
  · obtain rfl : L = [] := List.eq_nil_of_length_eq_zero h0
    rw [run_convert_bytes_string W 103 9 5 none 0 0 Tryz.underlying103 Tryz.underlying5 Tryz.underlying9]
    rfl
  · refine run_convert_bytes_back (P := Tryz.prog) W 103 9 5 ⟨g, 0, none⟩ cap L Tryz.underlying103 Tryz.underlying5 Tryz.underlying9 (fun j hj => ?_)
    rw [Addr.add_lit, Nat.zero_add, cell_of_row W g j cur _ _ hh]
    have e1 : (cur.toList.take (L.length * 1))[j]? = (L.map encU)[j]? := by rw [h4]
    rw [List.getElem?_take_of_lt (by omega)] at e1
    rw [← Array.getElem?_toList, e1, List.getElem?_map, List.getElem?_eq_getElem hj]
    rfl
section
variable {P : Program} {ops : Array Oper} {Q : Exit → Act → World → Prop} {md : Region.Mode} {S S' : World → Prop}
theorem wpAnyH_narrow (h : ∀ w, S' w → S w) : ∀ (fuel : Nat) (listed : Array Bool) (a : Act) (w : World), wpAnyH P md ops Q S' fuel listed a w → wpAnyH P md ops Q S fuel listed a w
  | 0, _, _, _, H => H
  | fuel + 1, _, _, _, H => ⟨H.1, fun i hi => wpOp_mono (fun a' w' h' => ⟨h _ h'.1, wpAnyH_narrow h fuel _ a' w' h'.2⟩) (H.2 i hi)⟩
end
theorem Below.allocS {N : Nat} {W wx : World} {o : Obj} (hN : W.heap.size = N) (h : Below N W wx) : Below N W (wx.alloc o) := h.alloc (hN ▸ h.size) o
theorem Below.transS {N : Nat} {W wx w' : World} (hN : W.heap.size = N) (h : Below N W wx) (hb : Below wx.heap.size wx w') : Below N W w' := h.trans (hb.mono (hN ▸ h.size))
theorem below_eq {N : Nat} {W wx : World} (hN : W.heap.size = N) (h : Below N W wx) : Below W.heap.size W wx := hN ▸ h
theorem held1 {N : Nat} {W wx : World} {B : Nat} {a b c d : BitVec 64} (hN : W.heap.size = N) (hB : Blk W B ⟨a, b, c, d⟩) (lB : B < W.heap.size) (hb : Below N W wx) :
    Below N W wx ∧ wx.cell? ⟨B, 0, none⟩ = some (.int .u64 (a.toNat : Int)) ∧ wx.cell? ⟨B, 1, none⟩ = some (.int .u64 (b.toNat : Int)) ∧ wx.cell? ⟨B, 2, none⟩ = some (.int .u64 (c.toNat : Int)) ∧ wx.cell? ⟨B, 3, none⟩ = some (.int .u64 (d.toNat : Int)) := by
  have cB := (hB.below hb (hN ▸ lB)).cells
  exact ⟨hb, cB.1, cB.2.1, cB.2.2.1, cB.2.2.2⟩
end Go.Proofs.YtdnbnigebejgjaaGreatDoor
namespace Go.Proofs.YtdnbnigebejgjaaGreatDoor
open Go.RowKit
theorem has_empty (b : Nat) : WSet.empty.has b = false := by
  unfold WSet.has WSet.empty
  have : (WSet.mk 0 0 0 0).w (b / 64) = 0#64 := by
    unfold WSet.w
    split <;> rfl
  rw [this]; simp
theorem has_or (s t : WSet) (b : Nat) : (s.or t).has b = (s.has b || t.has b) := by
  have h : (s.or t).w (b / 64) = s.w (b / 64) ||| t.w (b / 64) := by
    unfold WSet.or WSet.w
    split <;> rfl
  unfold WSet.has
  rw [h, BitVec.getLsbD_or]
theorem w_set (s : WSet) (i j : Nat) (hi : i < 4) (hj : j < 4) (x : BitVec 64) : (s.set i x).w j = if j = i then x else s.w j := by
  match i, hi, j, hj with
  | 0, _, 0, _ | 0, _, 1, _ | 0, _, 2, _ | 0, _, 3, _ => rfl
  | 1, _, 0, _ | 1, _, 1, _ | 1, _, 2, _ | 1, _, 3, _ => rfl
  | 2, _, 0, _ | 2, _, 1, _ | 2, _, 2, _ | 2, _, 3, _ => rfl
  | 3, _, 0, _ | 3, _, 1, _ | 3, _, 2, _ | 3, _, 3, _ => rfl
theorem bit_one (n k : Nat) (hn : n < 64) (hk : k < 64) : (1#64 <<< n).getLsbD k = decide (k = n) := by
  rw [BitVec.getLsbD_shiftLeft]
  by_cases h : k = n
  · subst h; simp [hk]
  · by_cases h2 : k < n
    · simp [h2, h]
    · have : k - n ≠ 0 := by omega
      simp [h, h2, hk, this]
theorem has_add (s : WSet) (n b : Nat) (hn : n < 256) (hb : b < 256) : (s.add n).has b = (s.has b || decide (b = n)) := by
  unfold WSet.has WSet.add
  rw [w_set _ _ _ (by omega) (by omega)]
  by_cases h : b / 64 = n / 64
  · rw [if_pos h, BitVec.getLsbD_or, bit_one _ _ (by omega) (by omega), h]
    congr 1
    rw [decide_eq_decide]
    omega
  · rw [if_neg h]
    have : b ≠ n := by rintro rfl; exact h rfl
    simp [this]
theorem has_spanTo (lo : Nat) : ∀ (k b : Nat), lo + k ≤ 256 → b < 256 → (spanTo lo k).has b = decide (lo ≤ b ∧ b < lo + k)
  | 0, b, _, _ => by
    show WSet.empty.has b = _
    rw [has_empty]
    symm; rw [decide_eq_false_iff_not]; omega
  | k + 1, b, h, hb => by
    show ((spanTo lo k).add (lo + k)).has b = _
    rw [has_add _ _ _ (by omega) hb, has_spanTo lo k b (by omega) hb, ← Bool.decide_or]
    rw [decide_eq_decide]
    omega
theorem ext_has {s t : WSet} (h : ∀ b, b < 256 → s.has b = t.has b) : s = t := by
  have key : ∀ j, j < 4 → s.w j = t.w j := by
    intro j hj
    refine BitVec.eq_of_getLsbD_eq fun i hi => ?_
    have := h (64 * j + i) (by omega)
    unfold WSet.has at this
    rw [show (64 * j + i) / 64 = j by omega, show (64 * j + i) % 64 = i by omega] at this
    exact this
  obtain ⟨a, b, c, d⟩ := s
  obtain ⟨e, f, g, k⟩ := t
  have h0 : a = e := key 0 (by omega)
  have h1 : b = f := key 1 (by omega)
  have h2 : c = g := key 2 (by omega)
  have h3 : d = k := key 3 (by omega)
  rw [h0, h1, h2, h3]
end Go.Proofs.YtdnbnigebejgjaaGreatDoor
namespace Go.Proofs.YtdnbnigebejgjaaGreatDoor
open Go.RowKit
attribute [local go_sem] w_0 w_1 w_2 w_3
/-- The slice holds the ranges from lo 0 to hi 0, .., from lo (len - 1) to hi (len - 1). -/
def RangesIn (w : World) (p : Option Addr) (len : Nat) (lo hi : Nat → Nat) : Prop := ∀ j, j < len → lo j < 256 ∧ hi j < 256 ∧ ∃ b off : Nat, p = some ⟨b, off, none⟩ ∧ b < w.heap.size ∧ w.cell? ⟨b, off + j * 2, none⟩ = some (.int .u8 (lo j : Int)) ∧ w.cell? ⟨b, off + j * 2 + 1, none⟩ = some (.int .u8 (hi j : Int))
/-- Is one of the first n ranges the wrong way round? -/
def badR (lo hi : Nat → Nat) : Nat → Bool
  | 0 => false
  | n + 1 => badR lo hi n || decide (hi n < lo n)
/-- What Ranges answers. -/
def rangesR (lo hi : Nat → Nat) (n : Nat) : Value := if badR lo hi n then .tuple #[WSet.empty.v, .int .i64 8] else .tuple #[(rangesTo lo hi n).v, .int .i64 0]
theorem badR_at {lo hi : Nat → Nat} : ∀ {n k : Nat}, k < n → hi k < lo k → badR lo hi n = true
  | n + 1, k, hk, h => by
    rw [badR]
    by_cases e : k = n
    · subst e; simp [h]
    · rw [badR_at (show k < n by omega) h]; rfl
theorem rangesR_bad {lo hi : Nat → Nat} {n k : Nat} (hk : k < n) (h : hi k < lo k) : rangesR lo hi n = .tuple #[WSet.empty.v, .int .i64 8] := by
  unfold rangesR; rw [badR_at hk h]; rfl
theorem rangesR_good {lo hi : Nat → Nat} {n : Nat} (h : badR lo hi n = false) : rangesR lo hi n = .tuple #[(rangesTo lo hi n).v, .int .i64 0] := by
  unfold rangesR; rw [h]; rfl
theorem badR_step {lo hi : Nat → Nat} {n : Nat} (h : badR lo hi n = false) (h2 : lo n ≤ hi n) : badR lo hi (n + 1) = false := by
  rw [badR, h]; simp; omega
theorem or_add (s t : WSet) (n : Nat) (hn : n < 256) : s.or (t.add n) = (s.or t).add n := by
  refine ext_has fun b hb => ?_
  rw [has_or, has_add _ _ _ hn hb, has_add _ _ _ hn hb, has_or, Bool.or_assoc]
theorem or_empty (s : WSet) : s.or .empty = s := by
  refine ext_has fun b hb => ?_
  rw [has_or, has_empty, Bool.or_false]
theorem or_span_succ (s : WSet) (lo m : Nat) (h : lo + m < 256) : s.or (spanTo lo (m + 1)) = (s.or (spanTo lo m)).add (lo + m) := by
  show s.or ((spanTo lo m).add (lo + m)) = _
  rw [or_add _ _ _ h]
set_option maxHeartbeats 2000000 in
theorem ranges_any (p : Option Addr) (len cap : Nat) (lo hi : Nat → Nat) (hlen : len ≤ maxLen) (w : World) (hc : RangesIn w p len lo hi) :
    Calls Tryz.prog 137 #[.slice p len cap] w fun e w' => e = .returned (rangesR lo hi len) ∧ Below w.heap.size w w' := by
  unfold maxLen at hlen
  have HC := Lib.hid hc
  clear hc
  go_enter Tryz.func137, Tryz.ntmps137
  go_wp2_with fail
  go_loopw [9] (fun i wr => ∃ k : Nat, k ≤ len ∧ i = .int .i64 k ∧ Hid (badR lo hi k = false) ∧ Blk wr w.heap.size .empty ∧ Blk wr (w.heap.size + 1) (rangesTo lo hi k) ∧ Below w.heap.size w wr)
    (fun i _ => len - (intOf i).toNat)
  case atStart =>
    refine ⟨0, Nat.zero_le _, rfl, Lib.hid rfl, (Blk.new0 w).alloc _, ?_, ?_⟩
    · have := Blk.new0 (w.alloc (.cells #[.int .u64 0, .int .u64 0, .int .u64 0, .int .u64 0] 41))
      rw [World.size_alloc] at this
      exact this
    · go_grown
  case round =>
    obtain ⟨k, hk, rfl, hg, h1, h2, hB⟩ := hrel
    by_cases hlt : k < len
    · obtain ⟨hl1, hl2, b, off, rfl, hbw, q0, q1⟩ := HC.out k hlt
      have e0 := (hB.cell (p := ⟨b, off + k * 2, none⟩) hbw).trans q0
      have e1 := (hB.cell (p := ⟨b, off + k * 2 + 1, none⟩) hbw).trans q1
      clear q0 q1
      by_cases hl3 : lo k ≤ hi k
      · have hg2 := Lib.hid (badR_step hg.out hl3)
        have hle : decide ((hi k : Int) < (lo k : Int)) = false := decide_eq_false (by omega)
        obtain ⟨c0, c1, c2, c3⟩ := h2.cells
        obtain ⟨f0, f1, f2, f3⟩ := h2.frees
        have l2 := h2.lt
        go_wp2_with fail
        go_region_with (first
          | (go_at_call 140; refine (span_any (lo k) (hi k) hl1 hl2 _).mono ?_; rintro e w5 ⟨rfl, hb5⟩; have hz5 : wr.heap.size < w5.heap.size := (by have := hb5.size; simp at this; omega); have b5 : Blk w5 (w.heap.size + 1) (rangesTo lo hi k) := Blk.belowAD h2 hb5 (by go_size); obtain ⟨c50, c51, c52, c53⟩ := b5.cells)
          | (go_at_call 43; refine (union2 _ _ _ _ _ _ _ _ _).mono ?_; rintro e w6 ⟨rfl, hb6⟩; have hz6 : w5.heap.size ≤ w6.heap.size := hb6.size; have b6 : Blk w6 (w.heap.size + 1) (rangesTo lo hi k) := Blk.below b5 hb6 (by go_size); obtain ⟨c60, c61, c62, c63⟩ := b6.cells; obtain ⟨f60, f61, f62, f63⟩ := b6.frees))
        all_goals
          go_wp2_with fail
          go_roundw
          case rel =>
            refine ⟨k + 1, by omega, by go_num, hg2, ?_, ?_, ?_⟩
            · have a6 : Blk w6 w.heap.size .empty := Blk.below (Blk.belowAD h1 hb5 (by go_size)) hb6 (by go_size)
              exact (((a6.other _ (by simp) _).other _ (by simp) _).other _ (by simp) _).other _ (by simp) _
            · exact b6.store (rangesTo lo hi (k + 1))
            · exact Blk.belowStore (rangesTo lo hi (k + 1)) ((((hB.alloc (by omega) _).drew).trans (hb5.mono (by go_size))).trans (hb6.mono (by omega))) (by omega)
          case measure => simp [intOf]; omega
      · have hr := Lib.hid (rangesR_bad (n := len) hlt (show hi k < lo k by omega))
        have hle : decide ((hi k : Int) < (lo k : Int)) = true := decide_eq_true (by omega)
        obtain ⟨f0, f1, f2, f3⟩ := h1.frees
        obtain ⟨d0, d1, d2, d3⟩ := h1.cells
        have l1 := h1.lt
        go_wp2_with fail
        exact bodyPost_ret ((h1.store0.alloc (.cells #[.int .u8 (lo k : Int), .int .u8 (hi k : Int)] 129)).results2 rfl _ rfl _ rfl) rfl ⟨by rw [hr.out]; rfl, (Blk.belowStore0 hB (Nat.le_refl _)).alloc (by simp; exact hB.size) _⟩
    · obtain rfl : k = len := by omega
      have hr := Lib.hid (rangesR_good hg.out)
      obtain ⟨c0, c1, c2, c3⟩ := h2.cells
      obtain ⟨d0, d1, d2, d3⟩ := h1.cells
      obtain ⟨f0, f1, f2, f3⟩ := h1.frees
      go_wp2_with fail
      exact bodyPost_ret ((h1.store (rangesTo lo hi k)).results2 rfl _ rfl _ rfl) rfl ⟨by rw [hr.out]; rfl, Blk.belowStore _ hB (Nat.le_refl _)⟩
end Go.Proofs.YtdnbnigebejgjaaGreatDoor
