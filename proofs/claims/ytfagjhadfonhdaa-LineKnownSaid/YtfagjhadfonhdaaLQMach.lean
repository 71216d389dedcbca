/-
  The program's newMachine and begin.
-/
import Derived.Test.YtfagjhadfonhdaaLQOf
import Derived.Test.YtfagjhadfonhdaaLQPure
import Derived.Test.YtfagjhadfonhdaaLQBuild
import Derived.Lib.ConvBytes
import Derived.Laws.IdiomStrings
import Derived.RangeFuncOwn
namespace Go.Proofs.Ytfagjhadfonhdaa
open Go.RowKit
theorem Below.but {w w' : World} (h : Below w.heap.size w w') (row : Option Nat) : w.grownBy w' row := ⟨h.os, h.tape, h.output, h.size, fun k hk _ => h.block k hk⟩
theorem gr_trans {a w w' : World} {row : Option Nat} (h : a.grownBy w row) (k : w.grownBy w' row) : a.grownBy w' row :=
  ⟨k.os.trans h.os, k.tape.trans h.tape, k.output.trans h.output, Nat.le_trans h.size k.size, fun i hi hne => (k.block i (Nat.lt_of_lt_of_le hi h.size) hne).trans (h.block i hi hne)⟩
theorem gr_at {a w : World} {B : Nat} (h : a.grownBy w (some B)) (i : Nat) (v : Value) : a.grownBy (w.setCell ⟨B, i, none⟩ v) (some B) :=
  gr_trans h ⟨rfl, rfl, rfl, by simp, fun k _ hne => Below.heap_setCell _ _ _ _ (fun e => hne (by rw [e]))⟩
theorem gr_drew {a w : World} {row : Option Nat} (h : a.grownBy w row) : a.grownBy w.drew row := ⟨h.os, h.tape, h.output, h.size, h.block⟩
theorem gr_alloc {a w : World} {row : Option Nat} (h : a.grownBy w row) (o : Obj) : a.grownBy (w.alloc o) row := gr_trans h (World.grownBy_alloc w o row)
theorem gr_below {a w w' : World} {row : Option Nat} (h : a.grownBy w row) (hb : Below w.heap.size w w') : a.grownBy w' row := gr_trans h (Below.but hb row)
theorem gr_new {a w : World} {row : Option Nat} (h : a.grownBy w row) {C : Nat} (hC : a.heap.size ≤ C) (i : Nat) (v : Value) : a.grownBy (w.setCell ⟨C, i, none⟩ v) row :=
  ⟨h.os, h.tape, h.output, by simpa using h.size, fun k hk hne => (Below.heap_setCell _ _ _ _ (fun e => by subst e; exact absurd hk (by omega))).trans (h.block k hk hne)⟩
/-- The cells of a machine. -/
def mC (n : Int) (S : List UInt8) (g : Bool) (bc : Nat) (C : List UInt8) (cap k : Nat) : List Value := [.int .i64 n, .string ⟨S.toArray⟩, .bool g, .slice (some ⟨bc, 0, none⟩) C.length cap, .int .i64 (k : Int)]
theorem CBlk.cells5 {t : TypeId} {w : World} {B : Nat} {a b c d e : Value} (h : CBlk t w B [a, b, c, d, e]) : w.cell? ⟨B, 0, none⟩ = some a ∧ w.cell? ⟨B, 1, none⟩ = some b ∧ w.cell? ⟨B, 2, none⟩ = some c ∧ w.cell? ⟨B, 3, none⟩ = some d ∧ w.cell? ⟨B, 4, none⟩ = some e :=
  ⟨h.cell 0 (by simp), h.cell 1 (by simp), h.cell 2 (by simp), h.cell 3 (by simp), h.cell 4 (by simp)⟩
/-- The bytes of a chunk in memory. -/
def ChAt (w : World) (bc : Nat) (C : List UInt8) : Prop := bc < w.heap.size ∧ ∀ j (h : j < C.length), w.cell? ⟨bc, j, none⟩ = some (.int .u8 ((C[j]).toNat : Int))
theorem ChAt.block {w w' : World} {bc : Nat} {C : List UInt8} (h : ChAt w bc C) (hb : w'.heap[bc]? = w.heap[bc]?) (hs : w.heap.size ≤ w'.heap.size) : ChAt w' bc C :=
  ⟨Nat.lt_of_lt_of_le h.1 hs, fun j hj => (World.cell?_of_block (a := ⟨bc, j, none⟩) hb).trans (h.2 j hj)⟩
theorem ChAt.grown {w w' : World} {bc B : Nat} {C : List UInt8} (h : ChAt w bc C) (hg : w.grownBy w' (some B)) (hne : bc ≠ B) : ChAt w' bc C := h.block (hg.block bc h.1 (fun e => hne (by injection e))) hg.size
theorem ChAt.below {n : Nat} {w w' : World} {bc : Nat} {C : List UInt8} (h : ChAt w bc C) (hb : Below n w w') (hn : bc < n) (hs : w.heap.size ≤ w'.heap.size) : ChAt w' bc C := h.block (hb.block bc hn) hs
set_option maxRecDepth 100000 in
set_option maxHeartbeats 2000000 in
theorem begin_any (B bc cap k : Nat) (n : Int) (S M C : List UInt8) (hS : S.length < 1000000) (hM : M.length < 1000000) (w : World) (hm : CBlk 59 w B (mC n S false bc C cap k)) :
    Calls Try.prog 51 #[.pointer (some ⟨B, 0, none⟩), .string ⟨M.toArray⟩] w fun e w' => e = .returned (.tuple #[]) ∧ CBlk 59 w' B (mC n (begS n (S ++ M)).txt (begS n (S ++ M)).lg bc C cap k) ∧ w.grownBy w' (some B) := by
  unfold mC at hm ⊢
  obtain ⟨c0, c1, c2, c3, c4⟩ := hm.cells5
  have f1 := hm.free 1
  have s1 : ∀ w, (Op.stringOp .add ⟨S.toArray⟩ ⟨M.toArray⟩).run Try.prog w = .ok (.string ⟨(S ++ M).toArray⟩) w := fun w => lstr_add S M (by omega)
  obtain ⟨X, hX⟩ : ∃ X, S ++ M = X := ⟨_, rfl⟩
  have hXl : X.length < 2000000 := by rw [← hX, List.length_append]; omega
  rw [hX] at s1 ⊢
  obtain ⟨W1, hW1⟩ : ∃ W1, w.setCell ⟨B, 1, none⟩ (.string ⟨X.toArray⟩) = W1 := ⟨_, rfl⟩
  have h1 : CBlk 59 W1 B [.int .i64 n, .string ⟨X.toArray⟩, .bool false, .slice (some ⟨bc, 0, none⟩) C.length cap, .int .i64 (k : Int)] := by
    rw [← hW1]
    exact hm.set 1 (.string ⟨X.toArray⟩)
  have hg : w.grownBy W1 (some B) := by
    rw [← hW1]
    exact gr_at (World.grownBy.refl _ _) 1 _
  have H1 := Lib.hid h1
  have HG := Lib.hid hg
  go_enter Try.func51, Try.ntmps51
  go_upto_region 1 with fail
  clear hW1 c0 c1 c2 c3 c4 f1 hm h1 hg hX s1
  obtain ⟨c0, c1, c2, c3, c4⟩ := H1.out.cells5
  have f1 := H1.out.free 1
  have f2 := H1.out.free 2
  by_cases hn : n < (X.length : Int)
  · have d1 : decide (n < (X.length : Int)) = true := decide_eq_true hn
    have hb : Hid (begS n X = ⟨n, [], true⟩) := Lib.hid (by unfold begS; rw [if_pos hn])
    clear hn
    go_wp2_with fail
    go_region
    all_goals
      go_wp2_with fail
      go_end0
      refine ⟨rfl, ?_, gr_at (gr_at (gr_drew HG.out) 1 _) 2 _⟩
      rw [hb.out]
      exact (H1.out.drew.set 1 (.string ⟨#[]⟩)).set 2 (.bool true)
  · have d1 : decide (n < (X.length : Int)) = false := decide_eq_false hn
    have hb : Hid (begS n X = ⟨n, X, false⟩) := Lib.hid (by unfold begS; rw [if_neg hn])
    clear hn
    go_wp2_with fail
    go_region
    all_goals
      go_wp2_with fail
      go_end0
      refine ⟨rfl, ?_, gr_drew HG.out⟩
      rw [hb.out]
      exact H1.out.drew
/-- What newMachine hands back. -/
def NewMach (N : Nat) (s : Sp) (c : List UInt8) (e : Ending) (w : World) : Prop :=
  if errS s = 0 then ∃ B bc cap, e = .returned (.tuple #[.pointer (some ⟨B, 0, none⟩), .int .i64 0]) ∧ CBlk 59 w B (mC s.lim s.txt false bc c cap 0) ∧ ChAt w bc c ∧ N ≤ bc ∧ bc < B ∧ c.length ≤ cap ∧ cap ≤ maxLen
  else e = .returned (.tuple #[.pointer none, .int .i64 (errS s : Nat)])
set_option maxRecDepth 100000 in
set_option maxHeartbeats 4000000 in
theorem newMachine_any (s : Sp) (c : List UInt8) (hl : s.txt.length < 100000) (hc : c.length < 100000) (w : World) :
    Calls Try.prog 32 #[spV s, .string ⟨c.toArray⟩] w fun e w' => NewMach w.heap.size s c e w' ∧ Below w.heap.size w w' := by
  obtain ⟨n, t, g⟩ := s
  dsimp only at hl
  have HB := Lib.hid ((Below.refl w.heap.size w).alloc (Nat.le_refl _) (.cells #[.int .i64 n, .string ⟨t.toArray⟩, .bool g] 24))
  have HB1 := Lib.hid (CBlk.new 24 w [.int .i64 n, .string ⟨t.toArray⟩, .bool g])
  obtain ⟨x, hx⟩ : ∃ x, chkS ⟨n, t, g⟩ = x := ⟨_, rfl⟩
  have HX := Lib.hid hx
  clear hx
  unfold spV
  go_enter Try.func32, Try.ntmps32
  go_wp2_with fail
  refine (lcheck_any ⟨n, t, g⟩ hl _).mono ?_
  rintro e w1 ⟨rfl, hb⟩
  rw [HX.out]
  have hB' := HB.out.trans (hb.mono HB.out.size)
  have h1' := HB1.out.below hb HB1.out.lt
  clear HB HB1 hb
  have HB := Lib.hid hB'
  have HB1 := Lib.hid h1'
  clear hB' h1'
  obtain ⟨a0, a1, a2⟩ := HB1.out.cells3
  by_cases h0 : x = 0
  · subst h0
    cases g
    · have hE : errS ⟨n, t, false⟩ = 0 := by unfold errS; rw [HX.out]; rfl
      have HE := Lib.hid hE
      clear hE
      go_wp2_with fail
      refine (clone_any t (by omega) _).mono ?_
      rintro e w2 ⟨rfl, hb⟩
      have HB := Lib.hid (HB.out.trans (hb.mono HB.out.size))
      have h2 := HB1.out.below hb HB1.out.lt
      have f1 := h2.free 1
      obtain ⟨a0, a1, a2⟩ := h2.cells3
      have HB2 := Lib.hid h2
      clear hb HB1 h2
      obtain ⟨W3, hW3⟩ : ∃ W3, w2.setCell ⟨w.heap.size, 1, none⟩ (.string ⟨t.toArray⟩) = W3 := ⟨_, rfl⟩
      have HB3 : Hid (CBlk 24 W3 w.heap.size [.int .i64 n, .string ⟨t.toArray⟩, .bool false]) := Lib.hid (by rw [← hW3]; exact HB2.out.set 1 (.string ⟨t.toArray⟩))
      have HB : Hid (Below w.heap.size w W3) := Lib.hid (by rw [← hW3]; exact HB.out.setCell (p := ⟨w.heap.size, 1, none⟩) (Nat.le_refl _) _)
      go_upto_region 7 with fail
      clear hW3 a0 a1 a2 f1 HB2
      obtain ⟨a0, a1, a2⟩ := HB3.out.cells3
      obtain ⟨W4, hW4⟩ : ∃ W4, Lib.bytesWorld W3 5 ⟨c.toArray⟩ = W4 := ⟨_, rfl⟩
      obtain ⟨cap, hcap⟩ : ∃ cap, grownCap W3 c.length 0 5 = cap := ⟨_, rfl⟩
      have hcv : (convert 9 57 (.string ⟨c.toArray⟩)).run Try.prog W3 = .ok (.slice (some ⟨W3.heap.size, 0, none⟩) c.length cap) W4 := by
        rw [← hW4, ← hcap]
        exact Lib.run_convert_string_bytes W3 9 57 5 ⟨c.toArray⟩ Try.underlying9 Try.underlying57 Try.underlying5
      have hcp : Hid (c.length ≤ cap ∧ cap ≤ maxLen) := Lib.hid (by rw [← hcap]; exact ⟨grownCap_ge _ _ _ _, grownCap_le_maxLen _ _ _ _ (by unfold maxLen; omega)⟩)
      have h4 : Hid (Below W3.heap.size W3 W4) := Lib.hid (by rw [← hW4]; exact Lib.below_freeze (((Below.refl _ W3).drew).alloc (Nat.le_refl _) _) (p := ⟨W3.heap.size, _, none⟩) (Nat.le_refl _) 1)
      have hs4 : Hid (W4.heap.size = W3.heap.size + 1) := Lib.hid (by rw [← hW4]; exact Lib.bytesWorld_size _ _ _)
      have hch : Hid (ChAt W4 W3.heap.size c) := Lib.hid ⟨by have := hs4.out; omega, fun j hj => by
        rw [← hW4]
        have := Lib.bytesWorld_cell W3 5 ⟨c.toArray⟩ j hj
        rw [this]
        simp [List.getD, hj]⟩
      clear hW4 hcap
      go_wp2_with fail
      go_ret2
      have hB5 := (HB.out.trans (h4.out.mono HB.out.size)).alloc (by have := HB.out.size; have := hs4.out; omega) (.cells #[.int .i64 n, .string ⟨t.toArray⟩, .bool false, .slice (some ⟨W3.heap.size, 0, none⟩) c.length cap, .int .i64 0] 59)
      refine ⟨?_, hB5⟩
      unfold NewMach
      rw [if_pos HE.out]
      refine ⟨W4.heap.size, W3.heap.size, cap, rfl, CBlk.new _ W4 _, hch.out.block (Below.heap_alloc _ _ _ hch.out.1) (by simp), HB.out.size, by have := hs4.out; omega, hcp.out⟩
    · have HE : Hid (errS ⟨n, t, true⟩ = 9) := Lib.hid (by unfold errS; rw [HX.out]; rfl)
      go_wp2_with fail
      go_ret2
      refine ⟨?_, HB.out⟩
      unfold NewMach
      rw [HE.out, if_neg (by omega)]
      rfl
  · have e0 : ((x : Int) == 0) = false := by rw [beq_eq_false_iff_ne]; omega
    have e1 : ((x : Int) != 0) = true := by rw [bne_iff_ne]; omega
    have HE : Hid (errS ⟨n, t, g⟩ = x) := Lib.hid (by unfold errS; rw [HX.out, if_neg h0])
    go_wp2_with fail
    go_ret2
    refine ⟨?_, HB.out⟩
    unfold NewMach
    rw [HE.out, if_neg h0]
    rfl
end Go.Proofs.Ytfagjhadfonhdaa
