/-
  The reference's sets: with, Of, stays and Stay. No condition.
-/
import Derived.Test.YtbbphchhdppipaaDoorUPrs
import Derived.Test.YtbbphchhdppipaaDoorURanges
import Derived.Test.YtbbphchhdppipaaDoorUOwn
import Derived.IntWalk
namespace Go.Proofs.YtbbphchhdppipaaDoor
open Go.RowKit
section
attribute [local go_sem] w_0 w_1 w_2 w_3
set_option maxHeartbeats 400000 in
theorem refWith_any (a b c d : BitVec 64) (n : Nat) (hn : n < 256) (w : World) :
    Calls Tryd.prog 61 #[.agg #[.int .u64 a.toNat, .int .u64 b.toNat, .int .u64 c.toNat, .int .u64 d.toNat], .int .u8 (n : Int)] w fun e w' => e = .returned ((WSet.mk a b c d).add n).v ∧ Below w.heap.size w w' := by
  go_enter Tryd.func61, Tryd.ntmps61
  go_upto_region 1 with fail
  have h1 := (Blk.new w ⟨a, b, c, d⟩).alloc (.cells #[.int .u64 0, .int .u64 0, .int .u64 0, .int .u64 0] 25)
  have h2 := Blk.new0 (w.alloc (.cells #[.int .u64 a.toNat, .int .u64 b.toNat, .int .u64 c.toNat, .int .u64 d.toNat] 25))
  rw [World.size_alloc] at h2
  have hB : Below w.heap.size w ((w.alloc (.cells #[.int .u64 a.toNat, .int .u64 b.toNat, .int .u64 c.toNat, .int .u64 d.toNat] 25)).alloc (.cells #[.int .u64 0, .int .u64 0, .int .u64 0, .int .u64 0] 25)) := by go_grown
  obtain ⟨W, hW⟩ : ∃ W, (w.alloc (.cells #[.int .u64 a.toNat, .int .u64 b.toNat, .int .u64 c.toNat, .int .u64 d.toNat] 25)).alloc (.cells #[.int .u64 0, .int .u64 0, .int .u64 0, .int .u64 0] 25) = W := ⟨_, rfl⟩
  rw [hW] at h1 h2 hB ⊢
  clear hW
  go_cut [5] (fun p wx => p = .int .u8 (n : Int) ∧ Blk wx w.heap.size ((WSet.mk a b c d).add n) ∧ Blk wx (w.heap.size + 1) .empty ∧ Below w.heap.size w wx)
  case first =>
    have hw := h1.cell (n / 64) (by omega)
    have hf := h1.free (n / 64)
    go_wp2_with fail
    go_meet
    refine ⟨rfl, ?_, h2.other _ (by simp) _, hB.setCell (by simp) _⟩
    rw [add_word _ _ _ rfl]; exact h1.set _ (by omega) _
  case rest =>
  obtain ⟨rfl, h1, h2, hB⟩ := hcut
  obtain ⟨c0, c1, c2, c3⟩ := h1.cells
  obtain ⟨d0, d1, d2, d3⟩ := h2.cells
  obtain ⟨f0, f1, f2, f3⟩ := h2.frees
  go_wp2_with fail
  exact bodyPost_ret ((h2.store ((WSet.mk a b c d).add n)).results rfl _ rfl) rfl ⟨rfl, Blk.belowStore _ hB (by omega)⟩
/-- The slice holds the bytes f 0, .., f (len - 1). -/
def BytesIn (w : World) (p : Option Addr) (len : Nat) (f : Nat → Nat) : Prop := ∀ j, j < len → f j < 256 ∧ ∃ b off : Nat, p = some ⟨b, off, none⟩ ∧ b < w.heap.size ∧ w.cell? ⟨b, off + j, none⟩ = some (.int .u8 (f j : Int))
set_option maxHeartbeats 1000000 in
theorem refOf_any (p : Option Addr) (len cap : Nat) (f : Nat → Nat) (hlen : len ≤ maxLen) (w : World) (hc : BytesIn w p len f) :
    Calls Tryd.prog 39 #[.slice p len cap] w fun e w' => e = .returned (addTo .empty f len).v ∧ Below w.heap.size w w' := by
  unfold maxLen at hlen
  have HC : Hid (BytesIn w p len f) := hc
  clear hc
  go_enter Tryd.func39, Tryd.ntmps39
  go_wp2_with fail
  go_loopw [4] (fun i wr => ∃ k : Nat, k ≤ len ∧ i = .int .i64 k ∧ Blk wr w.heap.size .empty ∧ Blk wr (w.heap.size + 1) (addTo .empty f k) ∧ Below w.heap.size w wr)
    (fun i _ => len - (intOf i).toNat)
  case atStart =>
    refine ⟨0, Nat.zero_le _, rfl, (Blk.new0 w).alloc _, ?_, ?_⟩
    · have := Blk.new0 (w.alloc (.cells #[.int .u64 0, .int .u64 0, .int .u64 0, .int .u64 0] 25))
      rw [World.size_alloc] at this
      exact this
    · go_grown
  case round =>
    obtain ⟨k, hk, rfl, h1, h2, hB⟩ := hrel
    by_cases hlt : k < len
    · obtain ⟨hn, b, off, rfl, hbw, hcl⟩ := HC.out k hlt
      have hcell : wr.cell? ⟨b, off + k, none⟩ = some (.int .u8 (f k : Int)) := (hB.cell (p := ⟨b, off + k, none⟩) hbw).trans hcl
      obtain ⟨t0, t1, t2, t3, ht⟩ : ∃ t0 t1 t2 t3, Hid (addTo .empty f k = ⟨t0, t1, t2, t3⟩) := ⟨_, _, _, _, Lib.hid rfl⟩
      rw [ht.out] at h2
      obtain ⟨u0, u1, u2, u3, hu⟩ : ∃ u0 u1 u2 u3, Hid ((WSet.mk t0 t1 t2 t3).add (f k) = ⟨u0, u1, u2, u3⟩) := ⟨_, _, _, _, Lib.hid rfl⟩
      obtain ⟨x, hx⟩ : ∃ x, f k = x := ⟨_, rfl⟩
      rw [hx] at hcell hu hn
      obtain ⟨c0, c1, c2, c3⟩ := h2.cells
      clear hcl
      have l2 := h2.lt
      go_wp2_with fail
      go_region_with (go_at_call 61; refine (refWith_any _ _ _ _ x hn _).mono ?_; rintro e w5 ⟨rfl, hb⟩; rw [hu.out]; have h1 := h1.drew.below hb h1.lt; have h2 := h2.drew.below hb h2.lt; have hB := hB.drew.trans (hb.mono hB.size); obtain ⟨f0, f1, f2, f3⟩ := h2.frees; obtain ⟨c50, c51, c52, c53⟩ := h2.cells)
      all_goals
        go_wp2_with fail
        go_roundw
        case rel =>
          refine ⟨k + 1, by omega, by go_num, ((((h1.other _ (by (try dsimp only); omega) _).other _ (by (try dsimp only); omega) _).other _ (by (try dsimp only); omega) _).other _ (by (try dsimp only); omega) _), ?_, Blk.belowStore ⟨u0, u1, u2, u3⟩ hB (by omega)⟩
          rw [addTo, ht.out, hx, hu.out]
          exact h2.store ⟨u0, u1, u2, u3⟩
        case measure => simp [intOf]; omega
    · obtain rfl : k = len := by omega
      obtain ⟨c0, c1, c2, c3⟩ := h2.cells
      obtain ⟨d0, d1, d2, d3⟩ := h1.cells
      obtain ⟨f0, f1, f2, f3⟩ := h1.frees
      go_wp2_with fail
      exact bodyPost_ret ((h1.store (addTo .empty f k)).results rfl _ rfl) rfl ⟨rfl, Blk.belowStore _ hB (Nat.le_refl _)⟩
end
/-- The marks that stay. -/
def markU (i : Nat) : Nat := (([45, 46, 95, 126, 47, 58, 64, 33, 42, 40, 41, 44, 36] : List Nat)[i]?).getD 0
theorem markU_get (i : Nat) (h : i < (ByteArray.mk #[45, 46, 95, 126, 47, 58, 64, 33, 42, 40, 41, 44, 36]).size) : ((ByteArray.mk #[45, 46, 95, 126, 47, 58, 64, 33, 42, 40, 41, 44, 36])[i]'h).toNat = markU i := by
  have h2 : i < 13 := h
  have key : ∀ i : Fin 13, ((ByteArray.mk #[45, 46, 95, 126, 47, 58, 64, 33, 42, 40, 41, 44, 36])[i.val]'i.isLt).toNat = markU i.val := by decide +kernel
  exact key ⟨i, h2⟩
theorem stay_marks : ∀ n, n < 256 → stayS.has n = ((decide (48 ≤ n) && decide (n ≤ 57)) || (decide (97 ≤ n) && decide (n ≤ 122)) || (decide (65 ≤ n) && decide (n ≤ 90)) || (List.range 13).any fun i => markU i == n) := by decide +kernel
theorem stay_yes {n k : Nat} (hn : n < 256) (hk : k < 13) (h : markU k = n) : stayS.has n = true := by
  rw [stay_marks n hn, Bool.or_eq_true]
  exact .inr (List.any_eq_true.2 ⟨k, List.mem_range.2 hk, by simp [h]⟩)
theorem stay_no {n : Nat} (hn : n < 256) (h1 : ¬ (48 ≤ n ∧ n ≤ 57)) (h2 : ¬ (97 ≤ n ∧ n ≤ 122)) (h3 : ¬ (65 ≤ n ∧ n ≤ 90)) (h : ∀ j, j < 13 → markU j ≠ n) : stayS.has n = false := by
  rw [stay_marks n hn, ← Bool.decide_and, ← Bool.decide_and, ← Bool.decide_and, decide_eq_false h1, decide_eq_false h2, decide_eq_false h3]
  simp only [Bool.false_or]
  rw [Bool.eq_false_iff]
  intro hc
  obtain ⟨j, hj, e⟩ := List.any_eq_true.1 hc
  exact h j (List.mem_range.1 hj) (by simpa using e)
theorem stay_in {n : Nat} (hn : n < 256) (h : (48 ≤ n ∧ n ≤ 57) ∨ (97 ≤ n ∧ n ≤ 122) ∨ (65 ≤ n ∧ n ≤ 90)) : stayS.has n = true := by
  rw [stay_marks n hn]
  rcases h with h | h | h <;> simp [h]
section
attribute [local go_sem] markU_get
set_option maxHeartbeats 1000000 in
theorem refStays_any (n : Nat) (hn : n < 256) (w : World) :
    Calls Tryd.prog 38 #[.int .u8 (n : Int)] w fun e w' => e = .returned (.bool (stayS.has n)) ∧ w = w' := by
  have h : (97 ≤ n ∧ n ≤ 122) ∨ (65 ≤ n ∧ n ≤ 90) ∨ (48 ≤ n ∧ n ≤ 57) ∨ n < 48 ∨ (57 < n ∧ n < 65) ∨ (90 < n ∧ n < 97) ∨ 122 < n := by omega
  have hp : ∀ b, stayS.has n = b → Hid (stayS.has n = b) := fun _ h => h
  rcases h with h | h | h | h | h | h | h
  all_goals
    first | have a1 : decide ((97 : Int) ≤ (n : Int)) = true := decide_eq_true (by omega) | have a1 : decide ((97 : Int) ≤ (n : Int)) = false := decide_eq_false (by omega)
    first | have a2 : decide ((n : Int) ≤ 122) = true := decide_eq_true (by omega) | have a2 : decide ((n : Int) ≤ 122) = false := decide_eq_false (by omega)
    first | have a3 : decide ((65 : Int) ≤ (n : Int)) = true := decide_eq_true (by omega) | have a3 : decide ((65 : Int) ≤ (n : Int)) = false := decide_eq_false (by omega)
    first | have a4 : decide ((n : Int) ≤ 90) = true := decide_eq_true (by omega) | have a4 : decide ((n : Int) ≤ 90) = false := decide_eq_false (by omega)
    first | have a5 : decide ((48 : Int) ≤ (n : Int)) = true := decide_eq_true (by omega) | have a5 : decide ((48 : Int) ≤ (n : Int)) = false := decide_eq_false (by omega)
    first | have a6 : decide ((n : Int) ≤ 57) = true := decide_eq_true (by omega) | have a6 : decide ((n : Int) ≤ 57) = false := decide_eq_false (by omega)
    go_enter Tryd.func38, Tryd.ntmps38
    go_wp2_with fail
  · have HP := hp true (stay_in hn (by omega))
    go_ret
    exact ⟨by rw [HP.out]; rfl, rfl⟩
  · have HP := hp true (stay_in hn (by omega))
    go_ret
    exact ⟨by rw [HP.out]; rfl, rfl⟩
  · have HP := hp true (stay_in hn (by omega))
    go_ret
    exact ⟨by rw [HP.out]; rfl, rfl⟩
  all_goals
    have HN : (∀ j, j < 13 → markU j ≠ n) → stayS.has n = false := stay_no hn (by omega) (by omega) (by omega)
    have HN := Lib.hid HN
    clear h hp a1 a2 a3 a4 a5 a6
    go_loopw [3] (fun i wr => ∃ k : Nat, k ≤ 13 ∧ i = .int .i64 k ∧ Hid (∀ j, j < k → markU j ≠ n) ∧ wr = w)
      (fun i _ => 13 - (intOf i).toNat)
    case atStart =>
      exact ⟨0, by omega, rfl, Lib.hid (fun j h => by omega), rfl⟩
    case round =>
      obtain ⟨k, hk, rfl, hall, rfl⟩ := hrel
      by_cases hlt : k < 13
      · have h1 : decide ((k : Int) < 13) = true := decide_eq_true (by omega)
        by_cases he : markU k = n
        · have HP := Lib.hid (stay_yes hn hlt he)
          go_wp2_with fail
          go_ret
          exact ⟨by rw [HP.out]; rfl, rfl⟩
        · have he2 : (markU k == n) = false := by simpa using he
          go_wp2_with fail
          go_roundw
          case rel =>
            refine ⟨k + 1, by omega, by go_num, Lib.hid (fun j hj => ?_), by simp⟩
            by_cases e : j = k
            · subst e; exact he
            · exact hall.out j (by omega)
          case measure => simp [intOf]; omega
      · obtain rfl : k = 13 := by omega
        have HP := Lib.hid (HN.out hall.out)
        go_wp2_with fail
        go_ret
        exact ⟨by rw [HP.out]; rfl, rfl⟩
end
theorem Blk.store4 {w : World} {B : Nat} {s0 : WSet} (h : Blk w B s0) (a b c d : BitVec 64) : Blk ((((w.setCell ⟨B, 0, none⟩ (.int .u64 (a.toNat : Int))).setCell ⟨B, 1, none⟩ (.int .u64 (b.toNat : Int))).setCell ⟨B, 2, none⟩ (.int .u64 (c.toNat : Int))).setCell ⟨B, 3, none⟩ (.int .u64 (d.toNat : Int))) B ⟨a, b, c, d⟩ := h.store ⟨a, b, c, d⟩
theorem Blk.below4 {w wr : World} {B n : Nat} (a b c d : BitVec 64) (hB : Below n w wr) (h : n ≤ B) : Below n w ((((wr.setCell ⟨B, 0, none⟩ (.int .u64 (a.toNat : Int))).setCell ⟨B, 1, none⟩ (.int .u64 (b.toNat : Int))).setCell ⟨B, 2, none⟩ (.int .u64 (c.toNat : Int))).setCell ⟨B, 3, none⟩ (.int .u64 (d.toNat : Int))) := Blk.belowStore ⟨a, b, c, d⟩ hB h
theorem Blk.cells4 {w : World} {B : Nat} {a b c d : BitVec 64} (h : Blk w B ⟨a, b, c, d⟩) : w.cell? ⟨B, 0, none⟩ = some (.int .u64 (a.toNat : Int)) ∧ w.cell? ⟨B, 1, none⟩ = some (.int .u64 (b.toNat : Int)) ∧ w.cell? ⟨B, 2, none⟩ = some (.int .u64 (c.toNat : Int)) ∧ w.cell? ⟨B, 3, none⟩ = some (.int .u64 (d.toNat : Int)) := h.cells
/-- The bytes below k that stay. -/
def upTo (k : Nat) : List Nat := (List.range k).filter fun n => stayS.has n
theorem upTo_yes {k : Nat} (h : stayS.has k = true) : upTo (k + 1) = upTo k ++ [k] := by
  unfold upTo
  rw [List.range_succ, List.filter_append]
  simp [h]
theorem upTo_no {k : Nat} (h : stayS.has k = false) : upTo (k + 1) = upTo k := by
  unfold upTo
  rw [List.range_succ, List.filter_append]
  simp [h]
theorem upTo_len (k : Nat) : (upTo k).length ≤ k := by
  unfold upTo
  exact Nat.le_trans (List.length_filter_le _ _) (by simp)
theorem upTo_lt (k x : Nat) (h : x ∈ upTo k) : x < k := List.mem_range.1 (List.mem_filter.1 h).1
def u8C (x : Nat) : Value := .int .u8 (x : Int)
theorem upTo_set : addTo .empty (fun j => (upTo 256).getD j 0) (upTo 256).length = stayS := by decide +kernel
theorem bytes_of_own {w : World} {base : Nat} {e : TypeId} {v : Value} {L : List Nat} (hL : ∀ x ∈ L, x < 256) (h : w.ownsRow base e 1 v L.length (L.map u8C)) : ∃ p cap, v = .slice p L.length cap ∧ BytesIn w p L.length (fun j => L.getD j 0) := by
  obtain ⟨p, cap, h1, h2⟩ := cells_of_own h (by simp)
  refine ⟨p, cap, h1, fun j hj => ?_⟩
  have hg : L.getD j 0 = L[j] := by rw [List.getD_eq_getElem?_getD, List.getElem?_eq_getElem hj]; rfl
  refine ⟨by show L.getD j 0 < 256; rw [hg]; exact hL _ (List.getElem_mem hj), ?_⟩
  obtain ⟨b, off, e1, e2, e3⟩ := h2 j (by omega)
  refine ⟨b, off, e1, e2, ?_⟩
  rw [e3]
  dsimp only
  rw [List.getD_eq_getElem?_getD, List.getElem?_map, List.getElem?_eq_getElem hj, hg]
  rfl
attribute [local go_sem] w_0 w_1 w_2 w_3
set_option maxRecDepth 100000 in
set_option maxHeartbeats 2000000 in
theorem refStay_any (w : World) :
    Calls Tryd.prog 12 #[] w fun e w' => e = .returned stayS.v ∧ Below w.heap.size w w' := by
  obtain ⟨i0, hi, hz0, hz1, hz2⟩ := info_parts info5
  have hset := upTo_set
  obtain ⟨⟨s0, s1, s2, s3⟩, hs⟩ : ∃ s, stayS = s := ⟨_, rfl⟩
  rw [hs] at hset
  rw [hs]
  have HS := Lib.hid hset
  clear hset hs
  go_enter Tryd.func12, Tryd.ntmps12
  go_wp2_with fail
  go_loopw [1, 2] (fun o i wr => ∃ (k : Nat), k ≤ 256 ∧ i = .int .i64 k ∧ wr.ownsRow (w.heap.size + 1) 5 1 o (upTo k).length ((upTo k).map u8C) ∧ Blk wr w.heap.size .empty ∧ Below w.heap.size w wr) (fun _ i _ => 256 - (intOf i).toNat)
  case atStart => exact ⟨0, by omega, rfl, World.ownsRow_nil _ _ _ _, Blk.new0 w, (Below.refl _ _).alloc (Nat.le_refl _) _⟩
  case round =>
  obtain ⟨k, hk, rfl, hrow, hb0, hB⟩ := hrel
  have hlt0 := hb0.lt
  have hlen := upTo_len k
  have hlt2 := upTo_lt k
  obtain ⟨U, hU⟩ : ∃ U, upTo k = U := ⟨_, rfl⟩
  rw [hU] at hrow hlen hlt2
  obtain ⟨ov, oc, rfl⟩ := own_slice hrow
  by_cases hlt : k < 256
  · have d1 : decide ((k : Int) < 256) = true := decide_eq_true (by omega)
    have q1 : IntKind.u8.wrap (k : Int) = (k : Int) := by rw [IntKind.wrap_u8']; omega
    have hone : w.heap.size + 1 ≤ (wr.alloc (.cells #[.int .u8 (k : Int)] 5)).heap.size := by simp; omega
    obtain ⟨q, hq⟩ : ∃ q, stayS.has k = q := ⟨_, rfl⟩
    have HQ := Lib.hid hq
    cases q with
    | true =>
      have hnext := upTo_yes hq
      rw [hU] at hnext
      have hnext := Lib.hid hnext
      clear hq hU hlt2
      go_wp2_with fail
      refine (refStays_any k hlt _).mono ?_
      rintro e w' ⟨rfl, rfl⟩
      rw [HQ.out]
      go_wp2_with (at_builtin; refine wpList_append_own _ rfl _ _ 53 rfl (w.heap.size + 1) 5 i0 (.int .u8 0) 1 1 Tryd.underlying53 hi hz0 hz1 hz2 rfl (by decide) _ _ _ rfl (hrow.alloc _) ⟨wr.heap.size, 0, none⟩ 1 1 [u8C k] rfl rfl (cell_one_new _ _ _) (by simp [Value.oneCell', u8C]) (by unfold maxLen; omega) (by omega) hone ?_; intro v' w2 hown' hgrow _)
      go_roundw
      case rel =>
        refine ⟨k + 1, by omega, by go_num, ?_, (hb0.alloc _).kept hgrow (fun e => by have := (hrow.lt _ e.symm).1; omega), below_grownR (hB.alloc (by omega) _) (by simp; omega) hgrow (fun r hr => by have := (hrow.lt r hr).1; omega)⟩
        rw [hnext.out, List.map_append, List.length_append]
        exact hown'
      case measure => simp [intOf]; omega
    | false =>
      have hnext := upTo_no hq
      rw [hU] at hnext
      have hnext := Lib.hid hnext
      clear hq hU hlt2
      go_wp2_with fail
      refine (refStays_any k hlt _).mono ?_
      rintro e w' ⟨rfl, rfl⟩
      rw [HQ.out]
      go_wp2_with fail
      go_roundw
      case rel =>
        refine ⟨k + 1, by omega, by go_num, ?_, hb0, hB⟩
        rw [hnext.out]
        exact hrow
      case measure => simp [intOf]; omega
  · have d1 : decide ((k : Int) < 256) = false := decide_eq_false (by omega)
    obtain rfl : k = 256 := by omega
    have HS := HS.out
    rw [hU] at HS
    have HS := Lib.hid HS
    obtain ⟨p, cap, hp, hin⟩ := bytes_of_own hlt2 hrow
    injection hp with e1 e2 e3
    subst e1 e3
    have HIN := Lib.hid hin
    obtain ⟨d0, d2, d3, d4⟩ := hb0.cells
    clear hU hin hlt2
    go_wp2_with fail
    refine (refOf_any ov U.length oc (fun j => U.getD j 0) (by unfold maxLen; omega) _ HIN.out).mono ?_
    rintro e w3 ⟨rfl, hb⟩
    rw [HS.out]
    have b1 := hb0.below hb hlt0
    obtain ⟨f0, f1, f2, f3⟩ := b1.frees
    obtain ⟨c0, c1, c2, c3⟩ := b1.cells
    have hB1 := hB.trans (hb.mono (by omega))
    clear hb
    go_wp2_with fail
    exact bodyPost_ret ((b1.store4 s0 s1 s2 s3).results rfl _ rfl) rfl ⟨rfl, Blk.below4 _ _ _ _ hB1 (Nat.le_refl _)⟩
end Go.Proofs.YtbbphchhdppipaaDoor
