/-
  The program's set of the bytes of some strings (location.setOf). The strings are shorter than a million bytes.
  The program's sets: Chars of targets, Stay of Locations, the bytes of queries; Safe and Query. The texts are shorter than a million bytes.
  Package location's Safe, inQueries and Query. The texts are shorter than a million bytes.
-/
import Derived.Test.YtjinedeelkdgiaaDoorHGAll
import Derived.Deep.RegionWith
import Derived.Test.YtjinedeelkdgiaaDoorHGRefS
import Derived.Lib.SlBytesConst
import Derived.Test.YtjinedeelkdgiaaDoorHEnc2
namespace Go.Proofs.YtjinedeelkdgiaaDoor
open Go.RowKit
attribute [local go_sem] w_0 w_1 w_2 w_3
theorem Blk.cells4' {w : World} {B : Nat} {a b c d : BitVec 64} (h : Blk w B ⟨a, b, c, d⟩) : w.cell? ⟨B, 0, none⟩ = some (.int .u64 (a.toNat : Int)) ∧ w.cell? ⟨B, 1, none⟩ = some (.int .u64 (b.toNat : Int)) ∧ w.cell? ⟨B, 2, none⟩ = some (.int .u64 (c.toNat : Int)) ∧ w.cell? ⟨B, 3, none⟩ = some (.int .u64 (d.toNat : Int)) := h.cells
theorem Blk.store4' {w : World} {B : Nat} {s0 : WSet} (h : Blk w B s0) (a b c d : BitVec 64) : Blk ((((w.setCell ⟨B, 0, none⟩ (.int .u64 (a.toNat : Int))).setCell ⟨B, 1, none⟩ (.int .u64 (b.toNat : Int))).setCell ⟨B, 2, none⟩ (.int .u64 (c.toNat : Int))).setCell ⟨B, 3, none⟩ (.int .u64 (d.toNat : Int))) B ⟨a, b, c, d⟩ := h.store ⟨a, b, c, d⟩
theorem Blk.below4' {w wr : World} {B n : Nat} (a b c d : BitVec 64) (hB : Below n w wr) (h : n ≤ B) : Below n w ((((wr.setCell ⟨B, 0, none⟩ (.int .u64 (a.toNat : Int))).setCell ⟨B, 1, none⟩ (.int .u64 (b.toNat : Int))).setCell ⟨B, 2, none⟩ (.int .u64 (c.toNat : Int))).setCell ⟨B, 3, none⟩ (.int .u64 (d.toNat : Int))) := Blk.belowStore ⟨a, b, c, d⟩ hB h
/-- The set of the bytes of the first k strings. -/
def soTo (L : List (List UInt8)) : Nat → WSet
  | 0 => .empty
  | k + 1 => (soTo L k).or (setOf ((L.getD k []).map UInt8.toNat))
def soS (L : List (List UInt8)) : WSet := soTo L L.length
theorem union2_h (x0 x1 x2 x3 y0 y1 y2 y3 a b c d : BitVec 64) (h : Hid ((WSet.mk x0 x1 x2 x3).or (WSet.mk y0 y1 y2 y3) = ⟨a, b, c, d⟩)) (W : World) :
    Calls Tryd.prog 73 #[.slice (some ⟨W.heap.size, 0, none⟩) 2 2] (W.alloc (.cells #[.int .u64 x0.toNat, .int .u64 x1.toNat, .int .u64 x2.toNat, .int .u64 x3.toNat, .int .u64 y0.toNat, .int .u64 y1.toNat, .int .u64 y2.toNat, .int .u64 y3.toNat] 38)) fun e w' => e = .returned (WSet.mk a b c d).v ∧ Below W.heap.size W w' := by
  have hc := union2 x0 x1 x2 x3 y0 y1 y2 y3 W
  rw [h.out] at hc
  exact hc
theorem of_bytes3_h (x : List UInt8) (hs : x.length < 1000000) (a b c d : BitVec 64) (h : Hid (setOf (x.map UInt8.toNat) = ⟨a, b, c, d⟩)) (cap : Nat) (w : World) (fr : Nat × Nat) (B : Nat) (hB : w.heap.size = B) :
    Calls Tryd.prog 78 #[.slice (some ⟨B, 0, none⟩) (ByteArray.mk x.toArray).size cap] (w.alloc (.cells (bytesRow ⟨x.toArray⟩ cap) 5 fr)).drew.drew fun e w' => e = .returned (WSet.mk a b c d).v ∧ Below w.heap.size w w' := by
  have hc := of_bytes3 ⟨x.toArray⟩ (by show x.length ≤ maxLen; unfold maxLen; omega) cap w fr B hB
  rw [bytesN_mk, h.out] at hc
  exact hc
set_option maxRecDepth 100000 in
set_option maxHeartbeats 4000000 in
theorem lsetOf_any (L : List (List UInt8)) (hL : L.length < 1000) (hx : ∀ x ∈ L, x.length < 1000000) (w : World) (P : Nat) (hP : P < w.heap.size) (hc : ∀ j, j < L.length → w.cell? ⟨P, j, none⟩ = some (.string ⟨(L.getD j []).toArray⟩)) :
    Calls Tryd.prog 92 #[.slice (some ⟨P, 0, none⟩) L.length L.length] w fun e w' => e = .returned (soS L).v ∧ Below w.heap.size w w' := by
  obtain ⟨n, hn⟩ : ∃ n, L.length = n := ⟨_, rfl⟩
  have HC := Lib.hid hc
  have HX : Hid (∀ j, j < n → (L.getD j []).length < 1000000) := Lib.hid fun j hj => by
    rw [List.getD_eq_getElem?_getD, List.getElem?_eq_getElem (by omega)]
    exact hx _ (List.getElem_mem _)
  have HR : Hid (soS L = soTo L n) := Lib.hid (by unfold soS; rw [hn])
  rw [hn] at HC hL ⊢
  clear hc hx hn
  go_enter Tryd.func92, Tryd.ntmps92
  go_wp2_with fail
  obtain ⟨O, hO⟩ : ∃ O, w.heap.size + 1 = O := ⟨_, rfl⟩
  have hO' := Lib.hid hO
  rw [hO]
  go_loopw [5, 8] (fun _ i wr => ∃ k : Nat, k ≤ n ∧ i = .int .i64 (k : Int) ∧ Blk wr w.heap.size .empty ∧ Blk wr O (soTo L k) ∧ Below w.heap.size w wr)
    (fun _ i _ => n - (intOf i).toNat)
  case atStart =>
    refine ⟨0, Nat.zero_le _, rfl, (Blk.new0 w).alloc _, ?_, ?_⟩
    · have := Blk.new0 (w.alloc (.cells #[.int .u64 0, .int .u64 0, .int .u64 0, .int .u64 0] 38))
      rw [World.size_alloc, hO] at this
      exact this
    · go_grown
  case round =>
    obtain ⟨k, hk, rfl, h1, h2, hB⟩ := hrel
    clear hO
    by_cases hlt : k < n
    · have hcell := (hB.cell (p := ⟨P, k, none⟩) hP).trans (HC.out k hlt)
      have hxl := HX.out k hlt
      have g1 : decide ((k : Int) < (n : Int)) = true := decide_eq_true (by omega)
      obtain ⟨x, hx⟩ : ∃ x, L.getD k [] = x := ⟨_, rfl⟩
      rw [hx] at hcell hxl
      obtain ⟨t0, t1, t2, t3, ht⟩ : ∃ t0 t1 t2 t3, Hid (soTo L k = ⟨t0, t1, t2, t3⟩) := ⟨_, _, _, _, Lib.hid rfl⟩
      obtain ⟨o0, o1, o2, o3, ho⟩ : ∃ t0 t1 t2 t3, Hid (setOf (x.map UInt8.toNat) = ⟨t0, t1, t2, t3⟩) := ⟨_, _, _, _, Lib.hid rfl⟩
      obtain ⟨v0, v1, v2, v3, hu⟩ : ∃ y0 y1 y2 y3, Hid ((WSet.mk t0 t1 t2 t3).or (WSet.mk o0 o1 o2 o3) = ⟨y0, y1, y2, y3⟩) := ⟨_, _, _, _, Lib.hid rfl⟩
      have HS : Hid (soTo L (k + 1) = ⟨v0, v1, v2, v3⟩) := Lib.hid (by rw [soTo, hx, ht.out, ho.out, hu.out])
      rw [ht.out] at h2
      have HO := Lib.hid (of_bytes3_h x hxl o0 o1 o2 o3 ho)
      have HU := Lib.hid (union2_h t0 t1 t2 t3 o0 o1 o2 o3 v0 v1 v2 v3 hu)
      obtain ⟨c0, c1, c2, c3⟩ := h2.cells4'
      have l2 := h2.lt
      have l1 := h1.lt
      have hcv := fun w => run_bytes_of_string (P := Tryd.prog) w 9 43 5 ⟨x.toArray⟩ Tryd.underlying9 Tryd.underlying43 Tryd.underlying5
      clear hx ht ho hu
      go_wp2_with fail
      go_region_with (first
        | (go_at_call 78; refine (HO.out _ wr _ _ rfl).mono ?_; rintro e w5 ⟨rfl, hb5⟩; have z5 := h1.below hb5 l1; have b5 := h2.below hb5 l2; have hB5 := hB.trans (hb5.mono hB.size); clear hb5; obtain ⟨c50, c51, c52, c53⟩ := b5.cells4'; obtain ⟨f50, f51, f52, f53⟩ := b5.frees; have l5 := b5.lt)
        | (go_at_call 73; refine (HU.out w5).mono ?_; rintro e w6 ⟨rfl, hb6⟩; have z6 := z5.below hb6 z5.lt; have b6 := b5.below hb6 b5.lt; have hB6 := hB5.trans (hb6.mono hB5.size); clear hb6; obtain ⟨c60, c61, c62, c63⟩ := b6.cells4'; obtain ⟨f60, f61, f62, f63⟩ := b6.frees; have l6 := b6.lt))
      all_goals
        go_wp2_with fail
        go_roundw
        case rel => exact ⟨k + 1, by omega, by go_num, (((z6.other _ (by have := hO'.out; (try dsimp only); omega) _).other _ (by have := hO'.out; (try dsimp only); omega) _).other _ (by have := hO'.out; (try dsimp only); omega) _).other _ (by have := hO'.out; (try dsimp only); omega) _, by rw [HS.out]; exact b6.store4' v0 v1 v2 v3, Blk.below4' v0 v1 v2 v3 hB6 (by have := hO'.out; omega)⟩
        case measure => simp [intOf]; omega
    · obtain rfl : k = n := by omega
      have g1 : decide ((k : Int) < (k : Int)) = false := decide_eq_false (by omega)
      obtain ⟨c0, c1, c2, c3⟩ := h2.cells
      obtain ⟨d0, d1, d2, d3⟩ := h1.cells
      obtain ⟨f0, f1, f2, f3⟩ := h1.frees
      go_wp2_with fail
      exact bodyPost_ret ((h1.store (soTo L k)).results rfl _ rfl) rfl ⟨by rw [HR.out], Blk.belowStore _ hB (Nat.le_refl _)⟩
end Go.Proofs.YtjinedeelkdgiaaDoor
namespace Go.Proofs.YtjinedeelkdgiaaDoor
open Go.RowKit
attribute [local go_sem] w_0 w_1 w_2 w_3
def chLo : Nat → Nat | 0 => 33 | _ => 36
def chHi : Nat → Nat | 0 => 34 | _ => 126
theorem ch_words : rangesTo chLo chHi 2 = charS := by decide +kernel
theorem ch_at (W : World) (B : Nat) (fr : Nat × Nat) (hk : W.heap[B]? = some (.cells #[.int .u8 33, .int .u8 34, .int .u8 36, .int .u8 126] 73 fr)) :
    Calls Tryd.prog 44 #[.slice (some ⟨B, 0, none⟩) 2 2] W fun e w' => e = .returned (.tuple #[charS.v, .int .i64 0]) ∧ Below W.heap.size W w' := by
  have hc := ranges_ok B 0 2 2 chLo chHi (fun j _ => ⟨by unfold chLo; split <;> omega, by unfold chHi; split <;> omega⟩) (fun j _ => by unfold chLo chHi; split <;> simp) (by unfold maxLen; omega) W (lt_of_block hk) (fun j hj => by
    rw [cell_of_row W _ _ _ _ _ hk, cell_of_row W _ _ _ _ _ hk]
    match j, hj with
    | 0, _ => exact ⟨rfl, rfl⟩
    | 1, _ => exact ⟨rfl, rfl⟩)
  rw [ch_words] at hc
  exact hc
set_option maxRecDepth 100000 in
set_option maxHeartbeats 2000000 in
theorem chars_any (a b c d : BitVec 64) (HT : Hid (charS = ⟨a, b, c, d⟩)) (w : World) :
    Calls Tryd.prog 21 #[] w fun e w' => e = .returned (WSet.mk a b c d).v ∧ Below w.heap.size w w' := by
  have HM : Hid (∀ (W : World) (B : Nat) (fr : Nat × Nat), W.heap[B]? = some (.cells #[.int .u8 33, .int .u8 34, .int .u8 36, .int .u8 126] 73 fr) → Calls Tryd.prog 44 #[.slice (some ⟨B, 0, none⟩) 2 2] W fun e w' => e = .returned (.tuple #[(WSet.mk a b c d).v, .int .i64 0]) ∧ Below W.heap.size W w') := Lib.hid fun W B fr hk => by
    have h := ch_at W B fr hk
    rw [HT.out] at h
    exact h
  clear HT
  go_enter Tryd.func21, Tryd.ntmps21
  go_upto_region 1 with fail
  have b0 := Blk.new0 w
  have hB2 := (Below.refl _ w).alloc (Nat.le_refl _) (.cells #[.int .u64 0, .int .u64 0, .int .u64 0, .int .u64 0] 38)
  obtain ⟨V, hV⟩ : ∃ V, w.alloc (.cells #[.int .u64 0, .int .u64 0, .int .u64 0, .int .u64 0] 38) = V := ⟨_, rfl⟩
  rw [hV] at b0 hB2 ⊢
  clear hV
  have lV := b0.lt
  go_wp2_with fail
  refine (HM.out _ _ _ (heap_alloc_new V _)).mono ?_
  rintro e w1 ⟨rfl, hb1⟩
  have hV1 : Below V.heap.size V w1 := ((Below.refl _ V).alloc (Nat.le_refl _) _).trans (hb1.mono (by simp))
  clear hb1
  go_upto_region 2 with fail
  have bz := (b0.below hV1 lV).alloc (.cells #[.int .u64 a.toNat, .int .u64 b.toNat, .int .u64 c.toNat, .int .u64 d.toNat] 38)
  have bv := Blk.new w1 ⟨a, b, c, d⟩
  have hX := (hB2.trans (hV1.mono hB2.size)).alloc (by have := hB2.size; have := hV1.size; omega) (.cells #[.int .u64 a.toNat, .int .u64 b.toNat, .int .u64 c.toNat, .int .u64 d.toNat] 38)
  have lX : w.heap.size < w1.heap.size := Nat.lt_of_lt_of_le lV hV1.size
  obtain ⟨B, hBe⟩ : ∃ B, w1.heap.size = B := ⟨_, rfl⟩
  obtain ⟨X, hXe⟩ : ∃ X, w1.alloc (.cells #[.int .u64 a.toNat, .int .u64 b.toNat, .int .u64 c.toNat, .int .u64 d.toNat] 38) = X := ⟨_, rfl⟩
  rw [hXe] at bz bv hX
  try rw [hXe]
  rw [hBe] at bv lX
  try rw [hBe]
  clear hXe hBe hV1 b0 hB2
  obtain ⟨c0, c1, c2, c3⟩ := bv.cells4'
  obtain ⟨d0, d1, d2, d3⟩ := bz.cells
  obtain ⟨f0, f1, f2, f3⟩ := bz.frees
  go_wp2_with fail
  exact bodyPost_ret ((bz.store4' a b c d).results rfl _ rfl) rfl ⟨rfl, Blk.below4' a b c d hX (Nat.le_refl _)⟩
def stL : List (List UInt8) := [[97, 98, 99, 100, 101, 102, 103, 104, 105, 106, 107, 108, 109, 110, 111, 112, 113, 114, 115, 116, 117, 118, 119, 120, 121, 122, 65, 66, 67, 68, 69, 70, 71, 72, 73, 74, 75, 76, 77, 78, 79, 80, 81, 82, 83, 84, 85, 86, 87, 88, 89, 90], [48, 49, 50, 51, 52, 53, 54, 55, 56, 57], [45, 46, 95, 126, 33, 36, 38, 39, 40, 41, 42, 43, 44, 59, 61, 58, 64, 47]]
theorem st_words : soS stL = stay17 := by decide +kernel
abbrev stC : Array Value := #[.string ⟨#[97, 98, 99, 100, 101, 102, 103, 104, 105, 106, 107, 108, 109, 110, 111, 112, 113, 114, 115, 116, 117, 118, 119, 120, 121, 122, 65, 66, 67, 68, 69, 70, 71, 72, 73, 74, 75, 76, 77, 78, 79, 80, 81, 82, 83, 84, 85, 86, 87, 88, 89, 90]⟩, .string ⟨#[48, 49, 50, 51, 52, 53, 54, 55, 56, 57]⟩, .string ⟨#[45, 46, 95, 126, 33, 36, 38, 39, 40, 41, 42, 43, 44, 59, 61, 58, 64, 47]⟩]
theorem st_at (W : World) (B : Nat) (fr : Nat × Nat) (hk : W.heap[B]? = some (.cells stC 9 fr)) :
    Calls Tryd.prog 92 #[.slice (some ⟨B, 0, none⟩) 3 3] W fun e w' => e = .returned stay17.v ∧ Below W.heap.size W w' := by
  have hc := lsetOf_any stL (by decide) (by decide +kernel) W B (lt_of_block hk) (fun j hj => by
    rw [cell_of_row W _ _ _ _ _ hk]
    match j, hj with
    | 0, _ => rfl
    | 1, _ => rfl
    | 2, _ => rfl)
  rw [st_words] at hc
  exact hc
set_option maxRecDepth 100000 in
set_option maxHeartbeats 2000000 in
theorem stay17_any (w : World) :
    Calls Tryd.prog 69 #[] w fun e w' => e = .returned stay17.v ∧ Below w.heap.size w w' := by
  have HM : Hid (∀ (W : World) (B : Nat) (fr : Nat × Nat), W.heap[B]? = some (.cells stC 9 fr) → Calls Tryd.prog 92 #[.slice (some ⟨B, 0, none⟩) 3 3] W fun e w' => e = .returned stay17.v ∧ Below W.heap.size W w') := Lib.hid st_at
  go_enter Tryd.func69, Tryd.ntmps69
  go_upto_region 1 with fail
  have b0 := Blk.new0 w
  have hB2 := (Below.refl _ w).alloc (Nat.le_refl _) (.cells #[.int .u64 0, .int .u64 0, .int .u64 0, .int .u64 0] 38)
  obtain ⟨V, hV⟩ : ∃ V, w.alloc (.cells #[.int .u64 0, .int .u64 0, .int .u64 0, .int .u64 0] 38) = V := ⟨_, rfl⟩
  rw [hV] at b0 hB2 ⊢
  clear hV
  have lV := b0.lt
  go_wp2_with fail
  refine (HM.out _ _ _ (heap_alloc_new V _)).mono ?_
  rintro e w7 ⟨rfl, hb7⟩
  have hV7 : Below V.heap.size V w7 := ((Below.refl _ V).alloc (Nat.le_refl _) _).trans (hb7.mono (by simp))
  have bz := b0.below hV7 lV
  obtain ⟨d0, d1, d2, d3⟩ := bz.cells
  obtain ⟨f0, f1, f2, f3⟩ := bz.frees
  go_wp2_with fail
  exact bodyPost_ret ((bz.store4' _ _ _ _).results rfl _ rfl) rfl ⟨rfl, Blk.below4' _ _ _ _ (hB2.trans (hV7.mono hB2.size)) (Nat.le_refl _)⟩
end Go.Proofs.YtjinedeelkdgiaaDoor
namespace Go.Proofs.YtjinedeelkdgiaaDoor
open Go.RowKit
attribute [local go_sem] w_0 w_1 w_2 w_3
/-- The bytes of a query: as a set of bytes, by words. -/
def qryS : WSet := ⟨18446744030759878656#64, 9223372036854775807#64, 0#64, 0#64⟩
def visS : WSet := rangesTo (fun _ => 33) (fun _ => 126) 1
theorem so35_words : soS [[35]] = ⟨34359738368#64, 0#64, 0#64, 0#64⟩ := by decide +kernel
theorem so35 (W : World) : Calls Tryd.prog 92 #[.slice (some ⟨W.heap.size, 0, none⟩) 1 1] (W.alloc (.cells #[.string ⟨#[35]⟩] 9)).drew fun e w' => e = .returned (WSet.mk 34359738368#64 0#64 0#64 0#64).v ∧ Below W.heap.size W w' := by
  have hk : (W.alloc (.cells #[.string ⟨#[35]⟩] 9)).drew.heap[W.heap.size]? = _ := heap_alloc_new W _
  refine (lsetOf_any [[35]] (by decide) (by decide) _ W.heap.size (lt_of_block hk) ?_).mono ?_
  · intro j hj
    rw [cell_of_row _ _ _ _ _ _ hk]
    match j, hj with
    | 0, _ => rfl
  · rintro e w' ⟨rfl, hb⟩
    exact ⟨by rw [so35_words], (((Below.refl _ W).alloc (Nat.le_refl _) _).drew).trans (hb.mono (by simp))⟩
theorem qry_words : andTo WSet.empty.not (pairF visS (WSet.mk 34359738368#64 0#64 0#64 0#64).not) 2 = qryS := by decide +kernel
theorem vis_any (W : World) (B : Nat) (hk : W.heap[B]? = some (.cells #[.int .u8 33, .int .u8 126] 73 (0, 0))) :
    Calls Tryd.prog 44 #[.slice (some ⟨B, 0, none⟩) 1 1] W fun e w' => e = .returned (.tuple #[visS.v, .int .i64 0]) ∧ Below W.heap.size W w' :=
  ranges_ok B 0 1 1 (fun _ => 33) (fun _ => 126) (fun _ _ => ⟨by omega, by omega⟩) (fun _ _ => by omega) (by unfold maxLen; omega) W (lt_of_block hk) (fun j hj => by
    obtain rfl : j = 0 := by omega
    exact ⟨cell_of_row W _ _ _ _ _ hk, cell_of_row W _ _ _ _ _ hk⟩)
set_option maxRecDepth 100000 in
set_option maxHeartbeats 4000000 in
theorem linq_any (a b c d : BitVec 64) (HT : Hid (qryS = ⟨a, b, c, d⟩)) (w : World) :
    Calls Tryd.prog 68 #[] w fun e w' => e = .returned (WSet.mk a b c d).v ∧ Below w.heap.size w w' := by
  obtain ⟨v0, v1, v2, v3, hv⟩ : ∃ a0 a1 a2 a3, Hid (visS = ⟨a0, a1, a2, a3⟩) := ⟨_, _, _, _, Lib.hid rfl⟩
  obtain ⟨n0, n1, n2, n3, hn⟩ : ∃ a0 a1 a2 a3, Hid ((WSet.mk 34359738368#64 0#64 0#64 0#64).not = ⟨a0, a1, a2, a3⟩) := ⟨_, _, _, _, Lib.hid rfl⟩
  obtain ⟨m0, m1, m2, m3, hm⟩ : ∃ a0 a1 a2 a3, Hid ((WSet.mk 34359738368#64 0#64 0#64 0#64) = ⟨a0, a1, a2, a3⟩) := ⟨_, _, _, _, Lib.hid rfl⟩
  have HV : Hid (∀ (W : World) (B : Nat), W.heap[B]? = some (.cells #[.int .u8 33, .int .u8 126] 73 (0, 0)) → Calls Tryd.prog 44 #[.slice (some ⟨B, 0, none⟩) 1 1] W fun e w' => e = .returned (.tuple #[(WSet.mk v0 v1 v2 v3).v, .int .i64 0]) ∧ Below W.heap.size W w') := Lib.hid fun W B hk => by
    have h := vis_any W B hk
    rw [hv.out] at h
    exact h
  have HO : Hid (∀ W : World, Calls Tryd.prog 92 #[.slice (some ⟨W.heap.size, 0, none⟩) 1 1] (W.alloc (.cells #[.string ⟨#[35]⟩] 9)).drew fun e w' => e = .returned (WSet.mk m0 m1 m2 m3).v ∧ Below W.heap.size W w') := Lib.hid fun W => by
    have h := so35 W
    rw [hm.out] at h
    exact h
  have HN : Hid (∀ W : World, Calls Tryd.prog 77 #[.agg #[.int .u64 m0.toNat, .int .u64 m1.toNat, .int .u64 m2.toNat, .int .u64 m3.toNat]] W fun e w' => e = .returned (WSet.mk n0 n1 n2 n3).v ∧ Below W.heap.size W w') := Lib.hid fun W => by
    have h := not_any m0 m1 m2 m3 W
    rw [← hm.out, hn.out] at h
    exact h
  have HC : Hid (∀ W : World, Calls Tryd.prog 76 #[.slice (some ⟨W.heap.size, 0, none⟩) 2 2] (W.alloc (.cells #[.int .u64 v0.toNat, .int .u64 v1.toNat, .int .u64 v2.toNat, .int .u64 v3.toNat, .int .u64 n0.toNat, .int .u64 n1.toNat, .int .u64 n2.toNat, .int .u64 n3.toNat] 38)) fun e w' => e = .returned (WSet.mk a b c d).v ∧ Below W.heap.size W w') := Lib.hid fun W => by
    have h := common2 v0 v1 v2 v3 n0 n1 n2 n3 W
    rw [← hv.out, ← hn.out, qry_words, HT.out] at h
    exact h
  clear hv hn hm HT
  go_enter Tryd.func68, Tryd.ntmps68
  go_upto_region 1 with fail
  have b0 := Blk.new0 w
  have hB2 := (Below.refl _ w).alloc (Nat.le_refl _) (.cells #[.int .u64 0, .int .u64 0, .int .u64 0, .int .u64 0] 38)
  obtain ⟨V, hV⟩ : ∃ V, w.alloc (.cells #[.int .u64 0, .int .u64 0, .int .u64 0, .int .u64 0] 38) = V := ⟨_, rfl⟩
  rw [hV] at b0 hB2 ⊢
  clear hV
  have lV := b0.lt
  go_wp2_with fail
  refine (HV.out _ _ (heap_alloc_new _ _)).mono ?_
  rintro e w1 ⟨rfl, hb1⟩
  have hV1 : Below V.heap.size V w1 := ((Below.refl _ V).alloc (Nat.le_refl _) _).trans (hb1.mono (by simp))
  clear hb1
  go_upto_region 2 with fail
  have bz := (b0.below hV1 lV).alloc (.cells #[.int .u64 v0.toNat, .int .u64 v1.toNat, .int .u64 v2.toNat, .int .u64 v3.toNat] 38)
  have bv := Blk.new w1 ⟨v0, v1, v2, v3⟩
  have hX := (hB2.trans (hV1.mono hB2.size)).alloc (by have := hB2.size; have := hV1.size; omega) (.cells #[.int .u64 v0.toNat, .int .u64 v1.toNat, .int .u64 v2.toNat, .int .u64 v3.toNat] 38)
  have lX : w.heap.size < w1.heap.size := Nat.lt_of_lt_of_le lV hV1.size
  obtain ⟨B, hBe⟩ : ∃ B, w1.heap.size = B := ⟨_, rfl⟩
  obtain ⟨X, hXe⟩ : ∃ X, w1.alloc (.cells #[.int .u64 v0.toNat, .int .u64 v1.toNat, .int .u64 v2.toNat, .int .u64 v3.toNat] 38) = X := ⟨_, rfl⟩
  have hX2 : Hid (w1.alloc (.cells #[.int .u64 v0.toNat, .int .u64 v1.toNat, .int .u64 v2.toNat, .int .u64 v3.toNat] 38) = X) := Lib.hid hXe
  rw [hXe] at bz bv hX
  try rw [hXe]
  rw [hBe] at bv lX
  try rw [hBe]
  clear hXe hBe hV1 b0 hB2
  obtain ⟨c0, c1, c2, c3⟩ := bv.cells4'
  have lB := bv.lt
  have lz := bz.lt
  go_region_with (first
    | (go_at_call 92; refine (HO.out X).mono ?_; rintro e w5 ⟨rfl, hb5⟩; have b5 := bv.below hb5 lB; have z5 := bz.below hb5 lz; obtain ⟨c50, c51, c52, c53⟩ := b5.cells4'; have l5 := hb5.size)
    | (go_at_call 77; refine (HN.out _).mono ?_; rintro e w6 ⟨rfl, hb6⟩; have b6 := b5.below hb6 b5.lt; have z6 := z5.below hb6 z5.lt; obtain ⟨c60, c61, c62, c63⟩ := b6.cells4'; have l6 := hb6.size)
    | (go_at_call 76; refine (HC.out w6).mono ?_; rintro e w7 ⟨rfl, hb7⟩; have z7 := z6.below hb7 z6.lt; have l7 := hb7.size; obtain ⟨d0, d1, d2, d3⟩ := z7.cells; obtain ⟨f0, f1, f2, f3⟩ := z7.frees))
  all_goals
    go_wp2_with fail
    have hZ : Below w.heap.size w w7 := ((hX.trans (hb5.mono hX.size)).trans (hb6.mono (by have := hX.size; omega))).trans (hb7.mono (by have := hX.size; omega))
    exact bodyPost_ret ((z7.store4' a b c d).results rfl _ rfl) rfl ⟨rfl, Blk.below4' a b c d hZ (Nat.le_refl _)⟩
def brkS : WSet := ⟨9217#64, 0#64, 0#64, 0#64⟩
theorem brk_words : soS [[0, 10, 13]] = brkS := by decide +kernel
theorem brk_at (a b c d : BitVec 64) (h : Hid (brkS = ⟨a, b, c, d⟩)) (W : World) (B : Nat) (fr : Nat × Nat) (hk : W.heap[B]? = some (.cells #[.string ⟨#[0, 10, 13]⟩] 9 fr)) :
    Calls Tryd.prog 92 #[.slice (some ⟨B, 0, none⟩) 1 1] W fun e w' => e = .returned (WSet.mk a b c d).v ∧ Below W.heap.size W w' := by
  have hc := lsetOf_any [[0, 10, 13]] (by decide) (by decide) W B (lt_of_block hk) (fun j hj => by
    rw [cell_of_row W _ _ _ _ _ hk]
    match j, hj with
    | 0, _ => rfl)
  rw [brk_words, h.out] at hc
  exact hc
/-- No byte 0, 10 or 13. -/
def safeB (l : List UInt8) : Bool := l.all fun x => brkS.not.has x.toNat
set_option maxHeartbeats 2000000 in
theorem safe_any (l : List UInt8) (hl : l.length < 1000000) (w : World) :
    Calls Tryd.prog 84 #[.string ⟨l.toArray⟩] w fun e w' => e = .returned (.bool (safeB l)) ∧ Below w.heap.size w w' := by
  obtain ⟨m0, m1, m2, m3, hm⟩ : ∃ y0 y1 y2 y3, Hid (brkS = ⟨y0, y1, y2, y3⟩) := ⟨_, _, _, _, Lib.hid rfl⟩
  obtain ⟨n0, n1, n2, n3, hn⟩ : ∃ y0 y1 y2 y3, Hid (brkS.not = ⟨y0, y1, y2, y3⟩) := ⟨_, _, _, _, Lib.hid rfl⟩
  have HM := Lib.hid (brk_at m0 m1 m2 m3 hm)
  have HN : Hid (∀ W : World, Calls Tryd.prog 77 #[.agg #[.int .u64 m0.toNat, .int .u64 m1.toNat, .int .u64 m2.toNat, .int .u64 m3.toNat]] W fun e w' => e = .returned (WSet.mk n0 n1 n2 n3).v ∧ Below W.heap.size W w') := Lib.hid fun W => by
    have h := not_any m0 m1 m2 m3 W
    rw [← hm.out, hn.out] at h
    exact h
  obtain ⟨q, hq⟩ : ∃ q, safeB l = q := ⟨_, rfl⟩
  have HA : Hid (∀ W : World, Calls Tryd.prog 53 #[.agg #[.int .u64 n0.toNat, .int .u64 n1.toNat, .int .u64 n2.toNat, .int .u64 n3.toNat], .string ⟨l.toArray⟩] W fun e w' => e = .returned (.bool q) ∧ Below W.heap.size W w') := Lib.hid fun W => by
    have h := tall_any n0 n1 n2 n3 l (by unfold maxLen; omega) W
    rw [← hn.out] at h
    rw [← hq]
    exact h
  rw [hq]
  clear hq hm hn
  go_enter Tryd.func84, Tryd.ntmps84
  go_wp2_with fail
  refine (HM.out _ _ _ (heap_alloc_new w _)).mono ?_
  rintro e w1 ⟨rfl, hb1⟩
  have hB1 : Below w.heap.size w w1 := ((Below.refl _ w).alloc (Nat.le_refl _) _).trans (hb1.mono (by simp))
  clear hb1
  go_wp2_with fail
  refine (HN.out _).mono ?_
  rintro e w2 ⟨rfl, hb2⟩
  have hB2 := hB1.trans (hb2.mono hB1.size)
  clear hb2 hB1
  go_wp2_with fail
  refine (HA.out _).mono ?_
  rintro e w3 ⟨rfl, hb3⟩
  have hB3 := hB2.trans (hb3.mono hB2.size)
  go_wp2_with fail
  go_ret
  exact ⟨rfl, hB3⟩
/-- The bytes of a query, all of them. -/
def qryB (l : List UInt8) : Bool := l.all fun x => qryS.has x.toNat
/-- What is said of a query. -/
def qryR (l : List UInt8) : Bool × Nat := if 128 < l.length then (false, 4) else (qryB l, 0)
def qryW (r : Bool × Nat) : Value := .tuple #[.bool r.1, .int .i64 (r.2 : Int)]
set_option maxHeartbeats 2000000 in
theorem lquery_any (l : List UInt8) (hl : l.length < 1000000) (w : World) :
    Calls Tryd.prog 37 #[.string ⟨l.toArray⟩] w fun e w' => e = .returned (qryW (qryR l)) ∧ Below w.heap.size w w' := by
  by_cases h : 128 < l.length
  · have g1 : decide ((128 : Int) < (l.length : Int)) = true := decide_eq_true (by omega)
    have HR : Hid (qryW (qryR l) = .tuple #[.bool false, .int .i64 4]) := Lib.hid (by unfold qryR; rw [if_pos h]; rfl)
    rw [HR.out]
    clear h
    go_enter Tryd.func37, Tryd.ntmps37
    go_wp2_with fail
    go_ret2
    exact ⟨rfl, Below.refl _ _⟩
  · have g1 : decide ((128 : Int) < (l.length : Int)) = false := decide_eq_false (by omega)
    obtain ⟨q, hq⟩ : ∃ q, qryB l = q := ⟨_, rfl⟩
    have HR : Hid (qryW (qryR l) = .tuple #[.bool q, .int .i64 0]) := Lib.hid (by unfold qryR; rw [if_neg h, hq]; rfl)
    rw [HR.out]
    obtain ⟨n0, n1, n2, n3, hn⟩ : ∃ y0 y1 y2 y3, Hid (qryS = ⟨y0, y1, y2, y3⟩) := ⟨_, _, _, _, Lib.hid rfl⟩
    have HI := Lib.hid (linq_any n0 n1 n2 n3 hn)
    have HA : Hid (∀ W : World, Calls Tryd.prog 53 #[.agg #[.int .u64 n0.toNat, .int .u64 n1.toNat, .int .u64 n2.toNat, .int .u64 n3.toNat], .string ⟨l.toArray⟩] W fun e w' => e = .returned (.bool q) ∧ Below W.heap.size W w') := Lib.hid fun W => by
      have h := tall_any n0 n1 n2 n3 l (by unfold maxLen; omega) W
      rw [← hn.out] at h
      rw [← hq]
      exact h
    clear h hq hn
    go_enter Tryd.func37, Tryd.ntmps37
    go_wp2_with fail
    refine (HI.out _).mono ?_
    rintro e w1 ⟨rfl, hb1⟩
    go_wp2_with fail
    refine (HA.out _).mono ?_
    rintro e w2 ⟨rfl, hb2⟩
    go_wp2_with fail
    go_ret2
    exact ⟨rfl, hb1.trans (hb2.mono hb1.size)⟩
end Go.Proofs.YtjinedeelkdgiaaDoor
