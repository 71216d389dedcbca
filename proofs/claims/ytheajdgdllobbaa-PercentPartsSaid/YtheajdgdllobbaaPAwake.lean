/-
  The law text's own says and awake.
-/
import Derived.Test.YtheajdgdllobbaaPProg
import Derived.Test.YtheajdgdllobbaaPLetters
namespace Go.Proofs.Ytheajdgdllobbaa
open Go.RowKit
attribute [local go_sem] w_0 w_1 w_2 w_3
/-- Does a text say another one? -/
def saysB (l t : List UInt8) : Bool := match decL l 0 with
  | .ok u => u == t
  | .error _ => false
set_option maxHeartbeats 1000000 in
theorem says_any (l t : List UInt8) (hl : l.length < 1000000) (w : World) :
    Calls Try.prog 28 #[.string ⟨l.toArray⟩, .string ⟨t.toArray⟩] w fun e w' => e = .returned (.bool (saysB l t)) ∧ Below w.heap.size w w' := by
  cases hd : decL l 0 with
  | error i =>
    have HD := Lib.hid hd
    have HR : Hid (saysB l t = false) := Lib.hid (by unfold saysB; rw [hd])
    clear hd
    go_enter Try.func28, Try.ntmps28
    go_wp2_with fail
    refine (decode_any l hl _).mono ?_
    rintro y w1 ⟨rfl, hb⟩
    rw [HD.out]
    simp only [decV]
    go_wp2_with fail
    go_ret
    exact ⟨by rw [HR.out]; rfl, hb.alloc hb.size _⟩
  | ok u =>
    have HD := Lib.hid hd
    have HR : Hid (saysB l t = (u == t)) := Lib.hid (by unfold saysB; rw [hd])
    clear hd
    go_enter Try.func28, Try.ntmps28
    go_wp2_with fail
    refine (decode_any l hl _).mono ?_
    rintro y w1 ⟨rfl, hb⟩
    rw [HD.out]
    simp only [decV]
    go_wp2_with fail
    go_ret
    exact ⟨by rw [HR.out]; rfl, hb.alloc hb.size _⟩
theorem aw1 : decV (decL [37, 52, 49, 37] 0) = .tuple #[.string ⟨#[]⟩, .agg #[.int .i64 3, .int .i64 3]] := by kernel_rfl
theorem aw2 : cutV [97, 37, 50, 48, 98] 4 = .tuple #[.string ⟨#[97, 37, 50, 48]⟩, .int .i64 0] := by kernel_rfl
theorem aw3 : offV [97, 37, 50, 48, 98] 2 = .tuple #[.int .i64 4, .int .i64 0] := by kernel_rfl
theorem aw4 : saysB [97, 37, 50, 102, 98] [97, 47, 98] = true := by decide +kernel
theorem aw5 : encL lettersW [97, 47, 98, 32, 99, 37] = [97, 47, 98, 37, 50, 48, 99, 37, 50, 53] := by decide +kernel
theorem aw6 : isB lettersW [97, 47, 37, 50, 48] = true := by decide +kernel
set_option maxHeartbeats 2000000 in
theorem awake_any (w : World) :
    Calls Try.prog 10 #[] w fun e w' => e = .returned (.bool true) ∧ Below w.heap.size w w' := by
  go_enter Try.func10, Try.ntmps10
  go_wp2_with fail
  refine (decode_any [37, 52, 49, 37] (by decide) _).mono ?_
  rintro y w1 ⟨rfl, hb1⟩
  rw [aw1]
  have bF : FBlk (w1.alloc (.cells #[.int .i64 3, .int .i64 3] 28)) w1.heap.size 3 3 := heap_alloc_new w1 _
  have hB := hb1.alloc hb1.size (.cells #[.int .i64 3, .int .i64 3] 28)
  clear hb1
  go_wp2_with fail
  obtain ⟨A, hA⟩ : ∃ A, w1.heap.size = A := ⟨_, rfl⟩
  obtain ⟨w2, hw2⟩ : ∃ W, w1.alloc (.cells #[.int .i64 3, .int .i64 3] 28) = W := ⟨_, rfl⟩
  rw [hA] at bF ⊢
  rw [hw2] at bF hB ⊢
  clear hA hw2
  refine (cut_any [97, 37, 50, 48, 98] (by decide) 4 _).mono ?_
  rintro y w3 ⟨rfl, hb⟩
  rw [aw2]
  have bF : FBlk w3 A 3 3 := (hb.block _ bF.lt).trans bF
  have hB := hB.trans (hb.mono hB.size)
  clear hb
  go_wp2_with fail
  refine (offset_any [97, 37, 50, 48, 98] (by decide) 2 _).mono ?_
  rintro y w4 ⟨rfl, hb⟩
  rw [aw3]
  have bF : FBlk w4 A 3 3 := (hb.block _ bF.lt).trans bF
  have hB := hB.trans (hb.mono hB.size)
  clear hb
  go_wp2_with fail
  refine (says_any [97, 37, 50, 102, 98] [97, 47, 98] (by decide) _).mono ?_
  rintro y w5 ⟨rfl, hb⟩
  rw [aw4]
  have bF : FBlk w5 A 3 3 := (hb.block _ bF.lt).trans bF
  have hB := hB.trans (hb.mono hB.size)
  clear hb
  obtain ⟨f0, f1, -, -⟩ := bF.cells
  go_wp2_with fail
  refine (letters_any _).mono ?_
  rintro y w6 ⟨rfl, hb⟩
  have hB := hB.trans (hb.mono hB.size)
  clear hb f0 f1
  go_wp2_with fail
  refine (encode_any [97, 47, 98, 32, 99, 37] (by decide) lettersW.a lettersW.b lettersW.c lettersW.d _).mono ?_
  rintro y w7 ⟨rfl, hb⟩
  rw [show (WSet.mk lettersW.a lettersW.b lettersW.c lettersW.d) = lettersW from rfl, aw5]
  have hB := hB.trans (hb.mono hB.size)
  clear hb
  go_wp2_with fail
  refine (letters_any _).mono ?_
  rintro y w8 ⟨rfl, hb⟩
  have hB := hB.trans (hb.mono hB.size)
  clear hb
  go_wp2_with fail
  refine (is_any [97, 47, 37, 50, 48] (by decide) lettersW.a lettersW.b lettersW.c lettersW.d _).mono ?_
  rintro y w9 ⟨rfl, hb⟩
  rw [show (WSet.mk lettersW.a lettersW.b lettersW.c lettersW.d) = lettersW from rfl, aw6]
  have hB := hB.trans (hb.mono hB.size)
  clear hb
  go_wp2_with fail
  go_ret
  exact ⟨rfl, hB⟩
end Go.Proofs.Ytheajdgdllobbaa
