/-
  The reader of package pattern: named sets, the bytes and the elements of classes, for every text of at most 1000 bytes.
  The reader of package pattern: the elements of a class, for every text of at most 1000 bytes.
-/
import Derived.Test.YtdnbnigebejgjaaGreatDoorHJQ1
import Derived.Test.YtdnbnigebejgjaaGreatDoorHRng
namespace Go.Proofs.YtdnbnigebejgjaaGreatDoor
open Go.RowKit
theorem jgst {W w : World} {row : Option Nat} (h : W.grownBy w row) {p : Addr} (hp : W.heap.size ≤ p.block) (v : Value) : W.grownBy (w.setCell p v) row :=
  ⟨h.os, h.tape, h.output, by have := h.size; simpa [World.setCell] using this, fun k hk hne => (Below.heap_setCell _ _ _ _ (by omega)).trans (h.block k hk hne)⟩
theorem jgal {W w : World} {row : Option Nat} (h : W.grownBy w row) (o : Obj) : W.grownBy (w.alloc o) row := jgtrans h (World.grownBy_alloc w o row)
theorem jgbe {W w w' : World} {row : Option Nat} (h : W.grownBy w row) (hb : Below w.heap.size w w') : W.grownBy w' row :=
  ⟨hb.os.trans h.os, hb.tape.trans h.tape, hb.output.trans h.output, Nat.le_trans h.size hb.size, fun k hk hne => (hb.block k (Nat.lt_of_lt_of_le hk h.size)).trans (h.block k hk hne)⟩
theorem jgstore {W w : World} {row : Option Nat} (h : W.grownBy w row) {b : Nat} (hp : W.heap.size ≤ b) (x y z u : Value) : W.grownBy ((((w.setCell ⟨b, 0, none⟩ x).setCell ⟨b, 1, none⟩ y).setCell ⟨b, 2, none⟩ z).setCell ⟨b, 3, none⟩ u) row :=
  jgst (jgst (jgst (jgst h (p := ⟨b, 0, none⟩) hp _) (p := ⟨b, 1, none⟩) hp _) (p := ⟨b, 2, none⟩) hp _) (p := ⟨b, 3, none⟩) hp _
theorem jplain {t : List UInt8} {s : RS} {x4 x5 x6 x7 : Value} {W : World} {B : Nat} (h : RD W B t s x4 x5 x6 x7) (o : Obj) : RD (W.alloc o) B t s x4 x5 x6 x7 := h.kept (World.grownBy_alloc W o none) (by simp)
theorem jother {t : List UInt8} {s : RS} {x4 x5 x6 x7 : Value} {W : World} {B b : Nat} (h : RD W B t s x4 x5 x6 x7) (hb : b ≠ B) (x y z u : Value) : RD ((((W.setCell ⟨b, 0, none⟩ x).setCell ⟨b, 1, none⟩ y).setCell ⟨b, 2, none⟩ z).setCell ⟨b, 3, none⟩ u) B t s x4 x5 x6 x7 :=
  ⟨h.1, h.2.1, ((((CBlk.other h.2.2 ⟨b, 0, none⟩ hb x).other ⟨b, 1, none⟩ hb y).other ⟨b, 2, none⟩ hb z).other ⟨b, 3, none⟩ hb u)⟩
theorem setW_v {l : List UInt8} : ∀ {v : Value}, parseV (parseOf l) = v → ∃ e : Int, v = .tuple #[(setW l).v, .int .i64 e] := by
  intro v h
  unfold setW
  cases hp : parseOf l with
  | ok s => rw [hp] at h; exact ⟨0, h.symm⟩
  | error e => rw [hp] at h; exact ⟨e, h.symm⟩
set_option maxHeartbeats 1000000 in
theorem setOf_any (l : List UInt8) (hl : l.length < 1000) (w : World) :
    Calls Tryz.prog 128 #[.string ⟨l.toArray⟩] w fun e w' => e = .returned (setW l).v ∧ Below w.heap.size w w' := by
  obtain ⟨e0, he⟩ := setW_v (l := l) rfl
  have HE := Lib.hid he
  clear he
  obtain ⟨⟨a, b, c, d⟩, hs⟩ : ∃ q, setW l = q := ⟨_, rfl⟩
  rw [hs] at HE
  have HS := Lib.hid hs
  clear hs
  go_enter Tryz.func128, Tryz.ntmps128
  go_wp2_with fail
  refine (parse_any l (by omega) _).mono ?_
  rintro e w1 ⟨rfl, hb1⟩
  rw [HE.out]
  have h1 : Blk w1 w.heap.size .empty := (Blk.new0 w).below hb1 (by simp)
  have hB : Below w.heap.size w w1 := ((Below.refl _ w).alloc (Nat.le_refl _) _).trans (hb1.mono (by simp))
  have hz : w.heap.size < w1.heap.size := h1.lt
  have h2 := h1.alloc (.cells #[.int .u64 a.toNat, .int .u64 b.toNat, .int .u64 c.toNat, .int .u64 d.toNat] 41)
  have h3 := Blk.new w1 ⟨a, b, c, d⟩
  obtain ⟨c0, c1, c2, c3⟩ := h3.cells
  obtain ⟨d0, d1, d2, d3⟩ := h1.cells
  obtain ⟨f0, f1, f2, f3⟩ := h1.frees
  clear hb1
  go_wp2_with fail
  exact bodyPost_ret (((h1.store ⟨a, b, c, d⟩).alloc _).results rfl _ rfl) rfl ⟨by rw [HS.out], (Blk.belowStore ⟨a, b, c, d⟩ hB (Nat.le_refl _)).alloc (by simp [World.setCell]; omega) _⟩
theorem jne {B n : Nat} (h : B < n) : some n ≠ some B := fun e => by injection e; omega
theorem takeR_no {t : List UInt8} {s : RS} {x : List UInt8} (h : takeB t s x = false) : takeR t s x = s := if_neg (by rw [h]; simp)
set_option maxHeartbeats 2000000 in
theorem named_any (t : List UInt8) (s : RS) (x4 x5 x6 x7 : Value) (W : World) (B : Nat) (h : RD W B t s x4 x5 x6 x7) :
    Calls Tryz.prog 119 #[.pointer (some ⟨B, 0, none⟩)] W fun e w' => e = .returned (.tuple #[(namedV t s).1.v, .bool (namedV t s).2]) ∧ RD w' B t (namedR t s) x4 x5 x6 x7 ∧ W.grownBy w' (some B) := by
  have hlt := h.lt
  obtain ⟨q1, hq1⟩ : ∃ q, takeB t s [92, 100] = q := ⟨_, rfl⟩
  obtain ⟨q2, hq2⟩ : ∃ q, takeB t s [92, 119] = q := ⟨_, rfl⟩
  cases q1 with
  | true =>
    have HV : Hid (namedV t s = (setW digitsL, true)) := Lib.hid (if_pos hq1)
    have HR : Hid (namedR t s = takeR t s [92, 100]) := Lib.hid (if_pos hq1)
    go_enter Tryz.func119, Tryz.ntmps119
    go_wp2_with fail
    refine (take_any t s x4 x5 x6 x7 [92, 100] (by simp) _ B (jplain h _)).mono ?_
    rintro e w1 ⟨rfl, h1, hg1⟩
    rw [hq1]
    have b1 : Blk w1 W.heap.size .empty := (Blk.new0 W).kept hg1 (jne hlt)
    have G1 := jgtrans (World.grownBy_alloc W _ (some B)) hg1
    clear hg1 hq1 hq2
    go_wp2_with fail
    refine (setOf_any digitsL (by decide) _).mono ?_
    rintro e w2 ⟨rfl, hb2⟩
    have h2 := h1.below hb2 h1.lt
    have b2 := b1.below hb2 b1.lt
    have G2 := jgbe G1 hb2
    obtain ⟨d0, d1, d2, d3⟩ := b2.cells
    obtain ⟨f0, f1, f2, f3⟩ := b2.frees
    clear h1 b1 G1 hb2
    go_wp2_with fail
    refine bodyPost_ret ((b2.store _).results2 rfl _ rfl _ rfl) rfl ⟨by rw [HV.out]; rfl, by rw [HR.out]; exact jother h2 (by omega) _ _ _ _, jgstore G2 (Nat.le_refl _) _ _ _ _⟩
  | false =>
    have HT := takeR_no hq1
    cases q2 with
    | true =>
      have HV : Hid (namedV t s = (setW wordsL, true)) := Lib.hid (by unfold namedV; rw [if_neg (by rw [hq1]; simp), if_pos hq2])
      have HR : Hid (namedR t s = takeR t s [92, 119]) := Lib.hid (if_neg (by rw [hq1]; simp))
      go_enter Tryz.func119, Tryz.ntmps119
      go_wp2_with fail
      refine (take_any t s x4 x5 x6 x7 [92, 100] (by simp) _ B (jplain h _)).mono ?_
      rintro e w1 ⟨rfl, h1, hg1⟩
      rw [hq1]
      rw [HT] at h1
      have b1 : Blk w1 W.heap.size .empty := (Blk.new0 W).kept hg1 (jne hlt)
      have G1 := jgtrans (World.grownBy_alloc W _ (some B)) hg1
      clear hg1 hq1 HT
      go_wp2_with fail
      refine (take_any t s x4 x5 x6 x7 [92, 119] (by simp) _ B h1).mono ?_
      rintro e w2 ⟨rfl, h2, hg2⟩
      rw [hq2]
      have b2 := b1.kept hg2 (jne hlt)
      have G2 := jgtrans G1 hg2
      clear h1 b1 G1 hg2 hq2
      go_wp2_with fail
      refine (setOf_any wordsL (by decide) _).mono ?_
      rintro e w3 ⟨rfl, hb3⟩
      have h3 := h2.below hb3 h2.lt
      have b3 := b2.below hb3 b2.lt
      have G3 := jgbe G2 hb3
      obtain ⟨d0, d1, d2, d3⟩ := b3.cells
      obtain ⟨f0, f1, f2, f3⟩ := b3.frees
      clear h2 b2 G2 hb3
      go_wp2_with fail
      refine bodyPost_ret ((b3.store _).results2 rfl _ rfl _ rfl) rfl ⟨by rw [HV.out]; rfl, by rw [HR.out]; exact jother h3 (by omega) _ _ _ _, jgstore G3 (Nat.le_refl _) _ _ _ _⟩
    | false =>
      have HT2 := takeR_no hq2
      have HV : Hid (namedV t s = (.empty, false)) := Lib.hid (by unfold namedV; rw [if_neg (by rw [hq1]; simp), if_neg (by rw [hq2]; simp)])
      have HR : Hid (namedR t s = s) := Lib.hid (by unfold namedR; rw [if_neg (by rw [hq1]; simp), HT2])
      go_enter Tryz.func119, Tryz.ntmps119
      go_wp2_with fail
      refine (take_any t s x4 x5 x6 x7 [92, 100] (by simp) _ B (jplain h _)).mono ?_
      rintro e w1 ⟨rfl, h1, hg1⟩
      rw [hq1]
      rw [HT] at h1
      have b1 : Blk w1 W.heap.size .empty := (Blk.new0 W).kept hg1 (jne hlt)
      have G1 := jgtrans (World.grownBy_alloc W _ (some B)) hg1
      clear hg1 hq1 HT
      go_wp2_with fail
      refine (take_any t s x4 x5 x6 x7 [92, 119] (by simp) _ B h1).mono ?_
      rintro e w2 ⟨rfl, h2, hg2⟩
      rw [hq2]
      rw [HT2] at h2
      have b2 := b1.kept hg2 (jne hlt)
      have G2 := jgtrans G1 hg2
      clear h1 b1 G1 hg2 hq2 HT2
      obtain ⟨d0, d1, d2, d3⟩ := b2.cells
      obtain ⟨f0, f1, f2, f3⟩ := b2.frees
      go_wp2_with fail
      refine bodyPost_ret ((b2.store .empty).results2 rfl _ rfl _ rfl) rfl ⟨by rw [HV.out]; rfl, by rw [HR.out]; exact jother h2 (by omega) _ _ _ _, jgstore G2 (Nat.le_refl _) _ _ _ _⟩
set_option maxHeartbeats 1000000 in
theorem classByte_any (t : List UInt8) (s : RS) (x4 x5 x6 x7 : Value) (W : World) (B : Nat) (h : RD W B t s x4 x5 x6 x7) :
    Calls Tryz.prog 136 #[.pointer (some ⟨B, 0, none⟩)] W fun e w' => e = .returned (.int .u8 ((cbV t s).toNat : Int)) ∧ RD w' B t (cbR t s) x4 x5 x6 x7 ∧ W.grownBy w' (some B) := by
  obtain ⟨q1, hq1⟩ : ∃ q, takeB t s [92] = q := ⟨_, rfl⟩
  cases q1 with
  | true =>
    have HV : Hid (cbV t s = oneV t (takeR t s [92]) [100, 119]) := Lib.hid (if_pos hq1)
    have HR : Hid (cbR t s = oneR t (takeR t s [92]) [100, 119]) := Lib.hid (if_pos hq1)
    go_enter Tryz.func136, Tryz.ntmps136
    go_wp2_with fail
    refine (take_any t s x4 x5 x6 x7 [92] (by simp) _ B h).mono ?_
    rintro e w1 ⟨rfl, h1, hg1⟩
    rw [hq1]
    go_wp2_with fail
    refine (one_any t _ x4 x5 x6 x7 [100, 119] _ B h1).mono ?_
    rintro e w2 ⟨rfl, h2, hg2⟩
    go_wp2_with fail
    go_ret
    exact ⟨by rw [HV.out]; rfl, by rw [HR.out]; exact h2, jgtrans hg1 hg2⟩
  | false =>
    have HT := takeR_no hq1
    have HV : Hid (cbV t s = oneV t s [93, 45]) := Lib.hid (if_neg (by rw [hq1]; simp))
    have HR : Hid (cbR t s = oneR t s [93, 45]) := Lib.hid (if_neg (by rw [hq1]; simp))
    go_enter Tryz.func136, Tryz.ntmps136
    go_wp2_with fail
    refine (take_any t s x4 x5 x6 x7 [92] (by simp) _ B h).mono ?_
    rintro e w1 ⟨rfl, h1, hg1⟩
    rw [hq1]
    rw [HT] at h1
    go_wp2_with fail
    refine (one_any t _ x4 x5 x6 x7 [93, 45] _ B h1).mono ?_
    rintro e w2 ⟨rfl, h2, hg2⟩
    go_wp2_with fail
    go_ret
    exact ⟨by rw [HV.out]; rfl, by rw [HR.out]; exact h2, jgtrans hg1 hg2⟩
end Go.Proofs.YtdnbnigebejgjaaGreatDoor
namespace Go.Proofs.YtdnbnigebejgjaaGreatDoor
open Go.RowKit
theorem of1 (c : UInt8) (W : World) :
    Calls Tryz.prog 121 #[.slice (some ⟨W.heap.size, 0, none⟩) 1 1] (W.alloc (.cells #[.int .u8 (c.toNat : Int)] 5)) fun e w' => e = .returned (ofW c).v ∧ Below W.heap.size W w' := by
  refine (of_any W.heap.size 0 1 1 (fun _ => c.toNat) (fun _ _ => c.toNat_lt) (by unfold maxLen; omega) _ (by simp) ?_).mono ?_
  · intro j hj
    obtain rfl : j = 0 := by omega
    have hk : (W.alloc (.cells #[.int .u8 (c.toNat : Int)] 5)).heap[W.heap.size]? = _ := heap_alloc_new W _
    rw [cell_of_row _ _ _ _ _ _ hk]
    rfl
  · rintro e w' ⟨rfl, hb⟩
    exact ⟨rfl, ((Below.refl _ W).alloc (Nat.le_refl _) _).trans (hb.mono (by simp))⟩
theorem ranges1 (a b : UInt8) (W : World) :
    Calls Tryz.prog 137 #[.slice (some ⟨W.heap.size, 0, none⟩) 1 1] (W.alloc (.cells #[.int .u8 (a.toNat : Int), .int .u8 (b.toNat : Int)] 129)) fun e w' => e = .returned (.tuple #[(spanW a b).v, .int .i64 (if a.toNat ≤ b.toNat then 0 else 8)]) ∧ Below W.heap.size W w' := by
  refine (ranges_any (some ⟨W.heap.size, 0, none⟩) 1 1 (fun _ => a.toNat) (fun _ => b.toNat) (by unfold maxLen; omega) _ ?_).mono ?_
  · intro j hj
    obtain rfl : j = 0 := by omega
    have hk : (W.alloc (.cells #[.int .u8 (a.toNat : Int), .int .u8 (b.toNat : Int)] 129)).heap[W.heap.size]? = _ := heap_alloc_new W _
    refine ⟨a.toNat_lt, b.toNat_lt, W.heap.size, 0, rfl, by simp, ?_, ?_⟩
    · rw [cell_of_row _ _ _ _ _ _ hk]; rfl
    · rw [cell_of_row _ _ _ _ _ _ hk]; rfl
  · rintro e w' ⟨rfl, hb⟩
    refine ⟨?_, ((Below.refl _ W).alloc (Nat.le_refl _) _).trans (hb.mono (by simp))⟩
    congr 1
    unfold spanW rangesR
    by_cases h : a.toNat ≤ b.toNat
    · have hg : badR (fun _ => a.toNat) (fun _ => b.toNat) 1 = false := badR_step rfl h
      rw [if_neg (by rw [hg]; simp), if_pos h, if_pos h]
      rfl
    · have hg : badR (fun _ => a.toNat) (fun _ => b.toNat) 1 = true := badR_at (by omega : 0 < 1) (by show b.toNat < a.toNat; omega)
      rw [if_pos hg, if_neg h, if_neg h]
set_option maxHeartbeats 4000000 in
theorem element_any (t : List UInt8) (s : RS) (x4 x5 x6 x7 : Value) (W : World) (B : Nat) (h : RD W B t s x4 x5 x6 x7) :
    Calls Tryz.prog 129 #[.pointer (some ⟨B, 0, none⟩)] W fun e w' => e = .returned (elV t s).v ∧ RD w' B t (elR t s) x4 x5 x6 x7 ∧ W.grownBy w' (some B) := by
  have hlt := h.lt
  obtain ⟨⟨⟨a, b, c, d⟩, q⟩, hq⟩ : ∃ q, namedV t s = q := ⟨_, rfl⟩
  cases q with
  | true =>
    have HV : Hid (elV t s = ⟨a, b, c, d⟩) := Lib.hid (by unfold elV; rw [hq]; exact if_pos rfl)
    have HR : Hid (elR t s = namedR t s) := Lib.hid (by unfold elR; rw [hq]; exact if_pos rfl)
    go_enter Tryz.func129, Tryz.ntmps129
    go_wp2_with fail
    refine (named_any t s x4 x5 x6 x7 _ B (jplain h _)).mono ?_
    rintro e w1 ⟨rfl, h1, hg1⟩
    rw [hq]
    have b1 : Blk w1 W.heap.size .empty := (Blk.new0 W).kept hg1 (jne hlt)
    have G1 := jgtrans (World.grownBy_alloc W _ (some B)) hg1
    have hz : W.heap.size < w1.heap.size := b1.lt
    have h3 := Blk.new w1 ⟨a, b, c, d⟩
    obtain ⟨c0, c1, c2, c3⟩ := h3.cells
    obtain ⟨d0, d1, d2, d3⟩ := b1.cells
    obtain ⟨f0, f1, f2, f3⟩ := b1.frees
    clear hg1 hq
    go_wp2_with fail
    exact bodyPost_ret (((b1.store ⟨a, b, c, d⟩).alloc _).results rfl _ rfl) rfl ⟨by rw [HV.out], by rw [HR.out]; exact jplain (jother h1 (by omega) _ _ _ _) _, jgal (jgstore G1 (Nat.le_refl _) _ _ _ _) _⟩
  | false =>
    have hnr : namedR t s = s := by
      unfold namedV at hq
      unfold namedR
      split at hq
      · cases hq
      · rename_i h0
        rw [if_neg h0]
        split at hq
        · cases hq
        · rename_i h1
          exact if_neg h1
    obtain ⟨low, hlow⟩ : ∃ l, cbV t s = l := ⟨_, rfl⟩
    obtain ⟨s1, hs1⟩ : ∃ l, cbR t s = l := ⟨_, rfl⟩
    obtain ⟨q2, hq2⟩ : ∃ q, takeB t s1 [45] = q := ⟨_, rfl⟩
    cases q2 with
    | false =>
      have HT := takeR_no hq2
      have HV : Hid (elV t s = ofW low) := Lib.hid (by unfold elV; rw [hq, if_neg (by simp), hs1, if_neg (by rw [hq2]; simp), hlow])
      have HR : Hid (elR t s = s1) := Lib.hid (by unfold elR; rw [hq, if_neg (by simp), hs1, if_neg (by rw [hq2]; simp)])
      go_enter Tryz.func129, Tryz.ntmps129
      go_wp2_with fail
      refine (named_any t s x4 x5 x6 x7 _ B (jplain h _)).mono ?_
      rintro e w1 ⟨rfl, h1, hg1⟩
      rw [hq]
      rw [hnr] at h1
      have b1 : Blk w1 W.heap.size .empty := (Blk.new0 W).kept hg1 (jne hlt)
      have G1 := jgtrans (World.grownBy_alloc W _ (some B)) hg1
      clear hg1 hq
      go_wp2_with fail
      refine (classByte_any t s x4 x5 x6 x7 _ B (jplain h1 _)).mono ?_
      rintro e w2 ⟨rfl, h2, hg2⟩
      rw [hlow]
      rw [hs1] at h2
      have b2 := (b1.alloc (.cells #[.int .u64 a.toNat, .int .u64 b.toNat, .int .u64 c.toNat, .int .u64 d.toNat] 41)).kept hg2 (jne hlt)
      have G2 := jgtrans (jgal G1 _) hg2
      clear h1 b1 G1 hg2
      go_wp2_with fail
      refine (take_any t s1 x4 x5 x6 x7 [45] (by simp) _ B h2).mono ?_
      rintro e w3 ⟨rfl, h3, hg3⟩
      rw [hq2]
      rw [HT] at h3
      have b3 := b2.kept hg3 (jne hlt)
      have G3 := jgtrans G2 hg3
      clear h2 b2 G2 hg3
      go_wp2_with fail
      refine (of1 low _).mono ?_
      rintro e w4 ⟨rfl, hb4⟩
      have h4 := h3.below hb4 h3.lt
      have b4 := b3.below hb4 b3.lt
      have G4 := jgbe G3 hb4
      obtain ⟨d0, d1, d2, d3⟩ := b4.cells
      obtain ⟨f0, f1, f2, f3⟩ := b4.frees
      clear h3 b3 G3 hb4
      go_wp2_with fail
      exact bodyPost_ret ((b4.store _).results rfl _ rfl) rfl ⟨by rw [HV.out], by rw [HR.out]; exact jother h4 (by omega) _ _ _ _, jgstore G4 (Nat.le_refl _) _ _ _ _⟩
    | true =>
      obtain ⟨s2, hs2⟩ : ∃ l, takeR t s1 [45] = l := ⟨_, rfl⟩
      obtain ⟨high, hhigh⟩ : ∃ l, cbV t s2 = l := ⟨_, rfl⟩
      obtain ⟨s3, hs3⟩ : ∃ l, cbR t s2 = l := ⟨_, rfl⟩
      obtain ⟨⟨a', b', c', d'⟩, hset⟩ : ∃ l, spanW low high = l := ⟨_, rfl⟩
      have HV : Hid (elV t s = ⟨a', b', c', d'⟩) := Lib.hid (by unfold elV; rw [hq, if_neg (by simp), hs1, if_pos hq2, hlow, hs2, hhigh, hset])
      have HR : Hid (elR t s = if low.toNat ≤ high.toNat then s3 else failR s3 8 s2.k) := Lib.hid (by unfold elR; rw [hq, if_neg (by simp), hs1, if_pos hq2, hlow, hs2, hhigh, hs3])
      go_enter Tryz.func129, Tryz.ntmps129
      go_wp2_with fail
      refine (named_any t s x4 x5 x6 x7 _ B (jplain h _)).mono ?_
      rintro e w1 ⟨rfl, h1, hg1⟩
      rw [hq]
      rw [hnr] at h1
      have b1 : Blk w1 W.heap.size .empty := (Blk.new0 W).kept hg1 (jne hlt)
      have G1 := jgtrans (World.grownBy_alloc W _ (some B)) hg1
      clear hg1 hq
      go_wp2_with fail
      refine (classByte_any t s x4 x5 x6 x7 _ B (jplain h1 _)).mono ?_
      rintro e w2 ⟨rfl, h2, hg2⟩
      rw [hlow]
      rw [hs1] at h2
      have b2 := (b1.alloc (.cells #[.int .u64 a.toNat, .int .u64 b.toNat, .int .u64 c.toNat, .int .u64 d.toNat] 41)).kept hg2 (jne hlt)
      have G2 := jgtrans (jgal G1 _) hg2
      clear h1 b1 G1 hg2
      go_wp2_with fail
      refine (take_any t s1 x4 x5 x6 x7 [45] (by simp) _ B h2).mono ?_
      rintro e w3 ⟨rfl, h3, hg3⟩
      rw [hq2]
      rw [hs2] at h3
      have b3 := b2.kept hg3 (jne hlt)
      have G3 := jgtrans G2 hg3
      obtain ⟨k0, k1, k2, k3⟩ := h3.cells
      clear h2 b2 G2 hg3
      go_wp2_with fail
      refine (classByte_any t s2 x4 x5 x6 x7 _ B h3).mono ?_
      rintro e w4 ⟨rfl, h4, hg4⟩
      rw [hhigh]
      rw [hs3] at h4
      have b4 := b3.kept hg4 (jne hlt)
      have G4 := jgtrans G3 hg4
      clear h3 b3 G3 hg4 k0 k1 k2 k3
      go_wp2_with fail
      refine (ranges1 low high _).mono ?_
      rintro e w5 ⟨rfl, hb5⟩
      rw [hset]
      have h5 := h4.below hb5 h4.lt
      have b5 := b4.below hb5 b4.lt
      have G5 := jgbe G4 hb5
      have hz : W.heap.size < w5.heap.size := b5.lt
      clear h4 b4 G4 hb5 hset hhigh hlow
      by_cases hle : low.toNat ≤ high.toNat
      · rw [if_pos hle]
        have HR2 : Hid (elR t s = s3) := Lib.hid (HR.out.trans (if_pos hle))
        have e3 := Blk.new w5 ⟨a', b', c', d'⟩
        obtain ⟨c0, c1, c2, c3⟩ := e3.cells
        obtain ⟨d0, d1, d2, d3⟩ := b5.cells
        obtain ⟨f0, f1, f2, f3⟩ := b5.frees
        clear hle
        go_wp2_with fail
        exact bodyPost_ret (((b5.store ⟨a', b', c', d'⟩).alloc _).results rfl _ rfl) rfl ⟨by rw [HV.out], by rw [HR2.out]; exact jplain (jother h5 (by omega) _ _ _ _) _, jgal (jgstore G5 (Nat.le_refl _) _ _ _ _) _⟩
      · rw [if_neg hle]
        have HR2 : Hid (elR t s = failR s3 8 s2.k) := Lib.hid (HR.out.trans (if_neg hle))
        have e3 := Blk.new w5 ⟨a', b', c', d'⟩
        have hlt5 : B < w5.heap.size := h5.lt
        clear hle
        go_wp2_with fail
        refine (fail_any t s3 x4 x5 x6 x7 8 s2.k _ B (jplain h5 _)).mono ?_
        rintro e w6 ⟨rfl, h6, hg6⟩
        have e6 := e3.kept hg6 (jne hlt5)
        have b6 := (b5.alloc (.cells #[.int .u64 a'.toNat, .int .u64 b'.toNat, .int .u64 c'.toNat, .int .u64 d'.toNat] 41)).kept hg6 (jne hlt)
        have G6 := jgtrans (jgal G5 _) hg6
        obtain ⟨c0, c1, c2, c3⟩ := e6.cells
        obtain ⟨d0, d1, d2, d3⟩ := b6.cells
        obtain ⟨f0, f1, f2, f3⟩ := b6.frees
        clear e3 b5 G5 hg6
        go_wp2_with fail
        exact bodyPost_ret ((b6.store ⟨a', b', c', d'⟩).results rfl _ rfl) rfl ⟨by rw [HV.out], by rw [HR2.out]; exact jother h6 (by omega) _ _ _ _, jgstore G6 (Nat.le_refl _) _ _ _ _⟩
end Go.Proofs.YtdnbnigebejgjaaGreatDoor
