/-
  The methods of a decoder for bytes of data and of trailer lines.
-/
import Derived.Test.YtbafmiejgpgamaaGreatDoorCMeth
namespace Go.Proofs.YtbafmiejgpgamaaGreatDoor
open Go.RowKit
theorem cba_append (a b : List UInt8) : ByteArray.mk (a ++ b).toArray = ByteArray.mk a.toArray ++ ByteArray.mk b.toArray := by
  apply ByteArray.ext
  rw [ByteArray.data_append]
  simp
/-- A length that a string may have. -/
def CSmall (n : Nat) : Prop := n ≤ 9223372036854775807
theorem cstr_add {P : Program} {w : World} (a b : List UInt8) (h : CSmall (a.length + b.length)) : (Op.stringOp .add ⟨a.toArray⟩ ⟨b.toArray⟩).run P w = .ok (.string ⟨(a ++ b).toArray⟩) w := by
  rw [cba_append]
  exact run_string_add_sum _ _ _ h
theorem byte1_text (W : World) (b : UInt8) : (convert 53 9 (.slice (some ⟨W.heap.size, 0, none⟩) 1 1)).run Tryz.prog (W.alloc (.cells #[.int .u8 (b.toNat : Int)] 5)) = .ok (.string ⟨[b].toArray⟩) (W.alloc (.cells #[.int .u8 (b.toNat : Int)] 5)) := by
  refine run_convert_bytes_back (P := Tryz.prog) _ 53 9 5 ⟨W.heap.size, 0, none⟩ 1 [b] Tryz.underlying53 Tryz.underlying5 Tryz.underlying9 (fun j hj => ?_)
  obtain rfl : j = 0 := by simpa using hj
  rw [Addr.add_lit, Nat.add_zero, cell_of_row _ _ 0 _ _ _ (heap_alloc_new W _)]
  rfl
/-- A step that leaves all older blocks but two as they were. -/
structure Fr (B : Nat) (r : Option Nat) (W W' : World) : Prop where
  os : W'.os = W.os
  tape : W'.tape = W.tape
  output : W'.output = W.output
  size : W.heap.size ≤ W'.heap.size
  block : ∀ k, k < W.heap.size → k ≠ B → some k ≠ r → W'.heap[k]? = W.heap[k]?
theorem Fr.of {B : Nat} {r : Option Nat} {W W' : World} (h : W.grownBy W' (some B)) : Fr B r W W' := ⟨h.os, h.tape, h.output, h.size, fun k hk h1 _ => h.block k hk (fun e => h1 (Option.some.inj e))⟩
theorem Fr.ofR {B : Nat} {r : Option Nat} {W W' : World} (h : W.grownBy W' r) : Fr B r W W' := ⟨h.os, h.tape, h.output, h.size, fun k hk _ h2 => h.block k hk h2⟩
theorem Fr.trans {B : Nat} {r : Option Nat} {X Y Z : World} (h : Fr B r X Y) (k : Fr B r Y Z) : Fr B r X Z :=
  ⟨k.os.trans h.os, k.tape.trans h.tape, k.output.trans h.output, Nat.le_trans h.size k.size, fun i hi h1 h2 => (k.block i (Nat.lt_of_lt_of_le hi h.size) h1 h2).trans (h.block i hi h1 h2)⟩
theorem Fr.drew {B : Nat} {r : Option Nat} {X Y : World} (h : Fr B r X Y) : Fr B r X Y.drew := ⟨h.os, h.tape, h.output, h.size, h.block⟩
theorem Fr.below {B base : Nat} {r : Option Nat} {W W' : World} (h : Fr B r W W') (hb : base ≤ B) (hr : ∀ k, r = some k → base ≤ k) (hz : base ≤ W.heap.size) : Below base W W' :=
  ⟨h.os, h.tape, h.output, h.size, fun k hk => h.block k (by omega) (by omega) (fun e => by have := hr k e.symm; omega)⟩
theorem below_grow {W W' : World} (h : Below W.heap.size W W') (r : Option Nat) : W.grownBy W' r := ⟨h.os, h.tape, h.output, h.size, fun k hk _ => h.block k hk⟩
theorem DB.kept {W W' : World} {B base : Nat} {d : Dec} {v : Value} (h : DB W B base d v) (hb : Below W.heap.size W W') : DB W' B base d v :=
  ⟨h.blk.kept (below_grow hb none) (by simp), h.row.below hb, h.le⟩
set_option maxHeartbeats 2000000 in
theorem in2_any (W : World) (B base : Nat) (d : Dec) (v : Value) (h : DB W B base d v) (ok : d.Ok) (hs : d.st = 2) (b : UInt8) :
    Calls Tryz.prog 56 #[.pointer (some ⟨B, 0, none⟩), .int .u8 (b.toNat : Int)] W fun e w' => e = .returned (.tuple #[]) ∧ (∃ v', DB w' B base (st2 d b) v') ∧ Fr B v.ownBlock W w' := by
  obtain ⟨c0, c1, c2, c3, c4, c5, c6, c7, c8⟩ := h.cells
  obtain ⟨f0, f1, f2, f3, f4, f5, f6, f7, f8⟩ := h.frees
  have hl := ok.left hs
  have hbl := ok.body
  have hBlt := h.blk.lt
  have hle := h.le
  obtain ⟨m, hm⟩ : ∃ m, d.left = m + 1 := ⟨d.left - 1, by omega⟩
  have hblen : d.body.length < 100000 := by omega
  obtain ⟨p0, c0', hform⟩ := h.row.form
  have hrow := h.row.alloc (.cells #[.int .u8 (b.toNat : Int)] 5)
  have hblk := h.blk.alloc (.cells #[.int .u8 (b.toNat : Int)] 5)
  have hnot := hblk.not_own (by decide) hrow
  have hA := World.grownBy_alloc W (.cells #[.int .u8 (b.toNat : Int)] 5) v.ownBlock
  have hbz : base ≤ (W.alloc (.cells #[.int .u8 (b.toNat : Int)] 5)).heap.size := by simp; omega
  have hbc : (W.alloc (.cells #[.int .u8 (b.toNat : Int)] 5)).cell? ⟨W.heap.size, 0, none⟩ = some (byteV b) := (CBlk.new 5 W [byteV b]).cell 0 (by simp)
  have HF : Hid (∀ (v' : Value) (w1 X : World), OwnB w1 base v' (d.body ++ [b]) → (W.alloc (.cells #[.int .u8 (b.toNat : Int)] 5)).grownBy w1 v.ownBlock → CBlk 64 w1 B (decC d v) → w1.grownBy X (some B) → CBlk 64 X B (decC (st2 d b) v') → (∃ v', DB X B base (st2 d b) v') ∧ Fr B v.ownBlock W X) := Lib.hid (by
    intro v' w1 X h1 h2 h3 h4 h5
    exact ⟨⟨v', h5, h1.kept h4 (fun e => h3.not_own (by decide) h1 e.symm), hle⟩, (Fr.ofR (hA.trans h2)).trans (Fr.of h4)⟩)
  have HE0 : m = 0 → st2 d b = { d with st := 3, left := m, body := d.body ++ [b] } := fun h0 => by
    unfold st2
    rw [hm, h0]
    simp
  have HE1 : m ≠ 0 → st2 d b = { d with left := m, body := d.body ++ [b] } := fun h0 => by
    unfold st2
    rw [hm, if_neg (by omega), ← hs]
    simp
  obtain ⟨L, hL⟩ : ∃ L, d.body.length = L := ⟨_, rfl⟩
  rw [hL] at hform hblen
  subst hform
  have hw : IntKind.i64.wrap ((d.left : Int) - 1) = (m : Int) := by rw [IntKind.wrap_i64]; omega
  have hw2 : wrap64 ((d.left : Int) - 1) = (m : Int) := by unfold wrap64; omega
  have HBL : Hid (d.body.length < 100000) := Lib.hid (by omega)
  have HL2 : Hid ((d.body ++ [b]).length = L + 1) := Lib.hid (by rw [List.length_append, hL]; rfl)
  clear hL hm hbl hblen hl hs
  by_cases hm0 : m = 0
  · have HE := Lib.hid (HE0 hm0)
    have em : ((m : Int) == 0) = true := by rw [beq_iff_eq]; omega
    clear HE0 HE1 hm0
    go_enter Tryz.func56, Tryz.ntmps56
    set_option maxRecDepth 10000 in
    go_wp2_with (at_builtin; refine wpList_append_byte rfl _ _ rfl rfl hrow hbz HBL.out b ⟨W.heap.size, 0, none⟩ 1 rfl hbc rfl ?_; intro v' w1 hown' hgrow; obtain ⟨p1, q1, hv⟩ := hown'.form; rw [HL2.out] at hv; subst hv; have hb1 := hblk.kept hgrow hnot; have hD1 := hb1; unfold decC at hD1; have e0 := hD1.cell 0 (by simp); have e3 := hD1.cell 3 (by simp); have e8 := hD1.cell 8 (by simp); simp only [List.getElem_cons_zero, List.getElem_cons_succ] at e0 e3 e8; have g0 := hD1.free 0; have g3 := hD1.free 3; have g8 := hD1.free 8)
    exact bodyPost_end (v := .tuple #[]) (by simp [Go.results, Tryz.results56, go_sem]) rfl ⟨rfl, HF.out _ _ _ hown' hgrow hb1 (grown_set (grown_set (grown_set (World.grownBy.refl w1 (some B)) 8 (.slice p1 (L + 1) q1)) 3 (.int .i64 (m : Int))) 0 (.int .i64 ((3 : Nat) : Int))) (by rw [HE.out]; exact ((hD1.set 8 (.slice p1 (L + 1) q1)).set 3 (.int .i64 (m : Int))).set 0 (.int .i64 ((3 : Nat) : Int)))⟩
  · have HE := Lib.hid (HE1 hm0)
    have em : ((m : Int) == 0) = false := by rw [beq_eq_false_iff_ne]; omega
    clear HE0 HE1 hm0
    go_enter Tryz.func56, Tryz.ntmps56
    set_option maxRecDepth 10000 in
    go_wp2_with (at_builtin; refine wpList_append_byte rfl _ _ rfl rfl hrow hbz HBL.out b ⟨W.heap.size, 0, none⟩ 1 rfl hbc rfl ?_; intro v' w1 hown' hgrow; obtain ⟨p1, q1, hv⟩ := hown'.form; rw [HL2.out] at hv; subst hv; have hb1 := hblk.kept hgrow hnot; have hD1 := hb1; unfold decC at hD1; have e0 := hD1.cell 0 (by simp); have e3 := hD1.cell 3 (by simp); have e8 := hD1.cell 8 (by simp); simp only [List.getElem_cons_zero, List.getElem_cons_succ] at e0 e3 e8; have g0 := hD1.free 0; have g3 := hD1.free 3; have g8 := hD1.free 8)
    exact bodyPost_end (v := .tuple #[]) (by simp [Go.results, Tryz.results56, go_sem]) rfl ⟨rfl, HF.out _ _ _ hown' hgrow hb1 (grown_set (grown_set (World.grownBy.refl w1 (some B)) 8 (.slice p1 (L + 1) q1)) 3 (.int .i64 (m : Int))) (by rw [HE.out]; exact (hD1.set 8 (.slice p1 (L + 1) q1)).set 3 (.int .i64 (m : Int)))⟩
end Go.Proofs.YtbafmiejgpgamaaGreatDoor
