/-
  The law text's own functions: parses, refused, awake; and the program's library facts in one.
  The law text's awake, and the law TargetKnown.
-/
import Derived.Test.YtjinedeelkdgiaaDoorHQ7
import Derived.Deep.OwnRows
namespace Go.Proofs.YtjinedeelkdgiaaDoor
open Go.RowKit
/-- The table of verdicts, and the library's variable of the search. -/
structure TT (w : World) : Prop where
  v : VT w
  m : ML w
theorem TT.below {w w' : World} (h : TT w) (hb : Below w.heap.size w w') : TT w' := ⟨h.v.below hb, h.m.below hb⟩
def pB (x : List UInt8 × List UInt8 × Nat × Nat) (p q : List UInt8) : Bool := (x.1 == p && x.2.1 == q) && ((x.2.2.2 : Int) == 200)
def rB (x : List UInt8 × List UInt8 × Nat × Nat) (m : Int) : Bool := (x.1 == [] && x.2.1 == []) && ((x.2.2.2 : Int) == m)
set_option maxHeartbeats 2000000 in
theorem parses_any (s p q : List UInt8) (hs : s.length < 30000) (n : Int) (w : World) (hT : TT w) :
    Calls Tryd.prog 23 #[.string ⟨s.toArray⟩, .int .i64 n, .string ⟨p.toArray⟩, .string ⟨q.toArray⟩] w fun e w' => e = .returned (.bool (pB (rdP (rdR s n)) p q)) ∧ Below w.heap.size w w' := by
  have HD := Lib.hid (parse_any s hs n w hT.v)
  obtain ⟨⟨a, b, e, st⟩, hx⟩ : ∃ x, rdP (rdR s n) = x := ⟨_, rfl⟩
  rw [hx] at HD ⊢
  clear hx
  unfold parseW at HD
  dsimp only at HD
  obtain ⟨b1, h1⟩ : ∃ x, (a == p) = x := ⟨_, rfl⟩
  obtain ⟨b2, h2⟩ : ∃ x, (b == q) = x := ⟨_, rfl⟩
  obtain ⟨b3, h3⟩ : ∃ x, ((st : Int) == 200) = x := ⟨_, rfl⟩
  have HP : Hid (pB (a, b, e, st) p q = ((b1 && b2) && b3)) := Lib.hid (by unfold pB; dsimp only; rw [h1, h2, h3])
  rw [HP.out]
  clear HP
  cases b1 <;> cases b2
  all_goals
    go_enter Tryd.func23, Tryd.ntmps23
    go_wp2_with fail
    refine HD.out.mono ?_
    rintro e1 w1 ⟨rfl, hb1⟩
    go_wp2_with fail
    go_ret
    exact ⟨rfl, hb1⟩
set_option maxHeartbeats 2000000 in
theorem refused_any (s : List UInt8) (hs : s.length < 30000) (n m : Int) (w : World) (hT : TT w) :
    Calls Tryd.prog 24 #[.string ⟨s.toArray⟩, .int .i64 n, .int .i64 m] w fun e w' => e = .returned (.bool (rB (rdP (rdR s n)) m)) ∧ Below w.heap.size w w' := by
  have HD := Lib.hid (parse_any s hs n w hT.v)
  obtain ⟨⟨a, b, e, st⟩, hx⟩ : ∃ x, rdP (rdR s n) = x := ⟨_, rfl⟩
  rw [hx] at HD ⊢
  clear hx
  unfold parseW at HD
  dsimp only at HD
  obtain ⟨b1, h1⟩ : ∃ x, (a == []) = x := ⟨_, rfl⟩
  obtain ⟨b2, h2⟩ : ∃ x, (b == []) = x := ⟨_, rfl⟩
  obtain ⟨b3, h3⟩ : ∃ x, ((st : Int) == m) = x := ⟨_, rfl⟩
  have i1 : a.isEmpty = b1 := by rw [← h1]; cases a <;> rfl
  have i2 : b.isEmpty = b2 := by rw [← h2]; cases b <;> rfl
  have HP : Hid (rB (a, b, e, st) m = ((b1 && b2) && b3)) := Lib.hid (by unfold rB; dsimp only; rw [h1, h2, h3])
  rw [HP.out]
  clear HP
  cases b1 <;> cases b2
  all_goals
    go_enter Tryd.func24, Tryd.ntmps24
    go_wp2_with fail
    refine HD.out.mono ?_
    rintro e1 w1 ⟨rfl, hb1⟩
    go_wp2_with fail
    go_ret
    exact ⟨rfl, hb1⟩
end Go.Proofs.YtjinedeelkdgiaaDoor
namespace Go.Proofs.YtjinedeelkdgiaaDoor
open Go.RowKit
def sN (n : Nat) : List UInt8 := List.replicate n 47
/-- Block B holds n bytes, of which k are slashes. -/
def SAt (w : World) (B n k : Nat) : Prop := B < w.heap.size ∧ ∀ j, j < n → w.cell? ⟨B, j, none⟩ = some (.int .u8 (if j < k then 47 else 0)) ∧ w.frozen? ⟨B, j, none⟩ = false
theorem SAt.step {w : World} {B n k : Nat} (hk : k < n) (h : SAt w B n k) : SAt (w.setCell ⟨B, k, none⟩ (.int .u8 47)) B n (k + 1) := by
  obtain ⟨h1, h2⟩ := h
  refine ⟨by simp [World.setCell]; exact h1, fun j hj => ?_⟩
  rw [World.frozen?_setCell]
  refine ⟨?_, (h2 j hj).2⟩
  by_cases e : j = k
  · subst e
    rw [World.cell?_setCell_same _ _ _ (h2 j hj).1, if_pos (by omega)]
  · rw [World.cell?_setCell_other _ _ _ _ (fun h => e (by injection h with _ h; exact h.symm)), (h2 j hj).1]
    by_cases h3 : j < k
    · rw [if_pos h3, if_pos (by omega)]
    · rw [if_neg h3, if_neg (by omega)]
theorem SAt.made (w : World) (n : Nat) : SAt (w.alloc (.cells (madeCells #[.int .u8 0] n) 5)) w.heap.size n 0 := by
  have hr := World.rowIs_made w (.int .u8 0) n 5
  have hn := heap_alloc_new w (.cells (madeCells #[Value.int .u8 0] n) 5)
  refine ⟨by rw [World.size_alloc]; omega, fun j hj => ⟨?_, ?_⟩⟩
  · rw [if_neg (by omega)]
    exact hr.cell hj
  · unfold World.frozen?
    dsimp only
    rw [hn]
    simp
theorem SAt.conv {w : World} {B n : Nat} (h : SAt w B n n) : (convert 43 9 (.slice (some ⟨B, 0, none⟩) n n)).run Tryd.prog w = .ok (.string ⟨(sN n).toArray⟩) w := by
  have := run_convert_bytes_back (P := Tryd.prog) w 43 9 5 ⟨B, 0, none⟩ n (sN n) Tryd.underlying43 Tryd.underlying5 Tryd.underlying9 (fun j hj => by
    have hj2 : j < n := by simpa [sN] using hj
    have := (h.2 j hj2).1
    rw [if_pos hj2] at this
    rw [Addr.add_lit, Nat.zero_add, this]
    simp [sN])
  rw [show (sN n).length = n by simp [sN]] at this
  exact this
theorem info8 : (Tryd.prog.info? 5).map (fun i => (i.zero, i.size, i.bytes)) = some (some (.int .u8 0), 1, 1) := by kernel_rfl
theorem kn_AT : txtR ([47, 97, 32, 98] : List UInt8) ([113] : List UInt8) = .inr [47, 97, 37, 50, 48, 98, 63, 113] := by decide +kernel
theorem kn_AS : sameR ([47, 97, 47, 46, 47, 98] : List UInt8) ([47, 97, 47, 37, 54, 50] : List UInt8) = (true, 0) := by decide +kernel
theorem kn_AP : pB (rdP (rdR ([47, 97, 37, 50, 48, 98, 63, 120, 61, 49, 63, 121] : List UInt8) 128)) ([47, 97, 32, 98] : List UInt8) ([120, 61, 49, 63, 121] : List UInt8) = true := by decide +kernel
theorem kn_AR : rB (rdP (rdR ([47, 46, 46] : List UInt8) 128)) 400 = true := by decide +kernel
theorem kn_W1 : rdP (rdR ([47, 46, 46] : List UInt8) 128) = ([], [], 18, 400) := by decide +kernel
theorem kn_W2 : rdP (rdR ([47, 97, 98, 99] : List UInt8) 3) = ([], [], 4, 414) := by decide +kernel
theorem kn_S1 : splP (splR ([47, 97, 63, 98, 63, 99] : List UInt8)) = ([47, 97], [98, 63, 99], 0) := by decide +kernel
theorem kn_S2 : splP (splR ([47, 97, 32, 98] : List UInt8)) = ([], [], 3) := by decide +kernel
theorem kn_T1 : txtR ([47] : List UInt8) ([] : List UInt8) = .inr [47] := by decide +kernel
theorem kn_C1 : canR ([47, 37, 54, 49, 47, 47, 98, 63] : List UInt8) = .inr [47, 97, 47, 98] := by decide +kernel
theorem kn_M1 : sameR ([47, 97] : List UInt8) ([47, 97, 63, 120] : List UInt8) = (false, 0) := by decide +kernel
theorem kn_P1 : pB (rdP (rdR ([47, 97, 47, 47, 46, 47, 98, 47, 46, 46, 47, 99, 47] : List UInt8) 128)) ([47, 97, 47, 99, 47] : List UInt8) ([] : List UInt8) = true := by decide +kernel
theorem kn_P2 : pB (rdP (rdR ([47, 63] : List UInt8) 128)) ([47] : List UInt8) ([] : List UInt8) = true := by decide +kernel
theorem kn_R1 : rB (rdP (rdR ([97] : List UInt8) 128)) 400 = true := by decide +kernel
theorem kn_R2 : rB (rdP (rdR ([47, 37, 50, 101, 37, 50, 101, 47, 97] : List UInt8) 128)) 400 = true := by decide +kernel
theorem kn_P3 : pB (rdP (rdR ([47, 97, 37, 50, 102, 98] : List UInt8) 128)) ([47, 97, 47, 98] : List UInt8) ([] : List UInt8) = true := by decide +kernel
theorem kn_R3 : rB (rdP (rdR ([47, 37, 48, 48] : List UInt8) 128)) 400 = true := by decide +kernel
theorem kn_R4 : rB (rdP (rdR ([47, 37, 48, 100] : List UInt8) 128)) 400 = true := by decide +kernel
theorem kn_R5 : rB (rdP (rdR ([47, 37, 52] : List UInt8) 128)) 400 = true := by decide +kernel
theorem kn_R6 : rB (rdP (rdR ([47, 97, 35] : List UInt8) 128)) 400 = true := by decide +kernel
theorem kn_R7 : rB (rdP (rdR ([47, 97, 98, 99] : List UInt8) 3)) 414 = true := by decide +kernel
theorem kn_P4 : pB (rdP (rdR ([47, 97, 98, 99] : List UInt8) 4)) ([47, 97, 98, 99] : List UInt8) ([] : List UInt8) = true := by decide +kernel
theorem kn_P5 : pB (rdP (rdR ([47, 97, 47, 46, 46, 47, 98] : List UInt8) 2)) ([47, 98] : List UInt8) ([] : List UInt8) = true := by decide +kernel
theorem kn_R8 : rB (rdP (rdR ([47, 97] : List UInt8) 0)) 0 = true := by decide +kernel
theorem kn_W3 : rdP (rdR (sN 1025) 128) = ([], [], 4, 414) := by decide +kernel
set_option maxRecDepth 100000 in
set_option maxHeartbeats 4000000 in
theorem awake_any (w : World) (hT : TT w) :
    Calls Tryd.prog 8 #[] w fun e w' => e = .returned (.bool true) ∧ Below w.heap.size w w' := by
  have HAT : Hid (∀ W, TT W → Calls Tryd.prog 15 #[.string ⟨#[47, 97, 32, 98]⟩, .string ⟨#[113]⟩] W fun e w' => e = .returned (.tuple #[.string ⟨#[47, 97, 37, 50, 48, 98, 63, 113]⟩, .int .i64 0]) ∧ Below W.heap.size W w') := Lib.hid fun W h => by
    have k := text_any ([47, 97, 32, 98] : List UInt8) ([113] : List UInt8) (by decide) (by decide) W h.m
    rw [kn_AT] at k
    exact k
  have HAS : Hid (∀ W, TT W → Calls Tryd.prog 19 #[.string ⟨#[47, 97, 47, 46, 47, 98]⟩, .string ⟨#[47, 97, 47, 37, 54, 50]⟩] W fun e w' => e = .returned (.tuple #[.bool true, .int .i64 0]) ∧ Below W.heap.size W w') := Lib.hid fun W h => by
    have k := same_any ([47, 97, 47, 46, 47, 98] : List UInt8) ([47, 97, 47, 37, 54, 50] : List UInt8) (by decide) (by decide) W h.v
    rw [kn_AS] at k
    exact k
  have HAP : Hid (∀ W, TT W → Calls Tryd.prog 23 #[.string ⟨#[47, 97, 37, 50, 48, 98, 63, 120, 61, 49, 63, 121]⟩, .int .i64 128, .string ⟨#[47, 97, 32, 98]⟩, .string ⟨#[120, 61, 49, 63, 121]⟩] W fun e w' => e = .returned (.bool true) ∧ Below W.heap.size W w') := Lib.hid fun W h => by
    have k := parses_any ([47, 97, 37, 50, 48, 98, 63, 120, 61, 49, 63, 121] : List UInt8) ([47, 97, 32, 98] : List UInt8) ([120, 61, 49, 63, 121] : List UInt8) (by decide) 128 W h
    rw [kn_AP] at k
    exact k
  have HAR : Hid (∀ W, TT W → Calls Tryd.prog 24 #[.string ⟨#[47, 46, 46]⟩, .int .i64 128, .int .i64 400] W fun e w' => e = .returned (.bool true) ∧ Below W.heap.size W w') := Lib.hid fun W h => by
    have k := refused_any ([47, 46, 46] : List UInt8) (by decide) 128 400 W h
    rw [kn_AR] at k
    exact k
  have hB0 : Below w.heap.size w w := Below.refl _ _
  go_enter Tryd.func8, Tryd.ntmps8
  go_wp2_with fail
  refine (HAT.out _ (hT.below hB0)).mono ?_
  rintro e w1 ⟨rfl, hb1⟩
  have hB1 := hB0.trans (hb1.mono hB0.size)
  clear hb1 hB0 HAT
  go_wp2_with fail
  refine (HAS.out _ (hT.below hB1)).mono ?_
  rintro e w2 ⟨rfl, hb2⟩
  have hB2 := hB1.trans (hb2.mono hB1.size)
  clear hb2 hB1 HAS
  go_wp2_with fail
  refine (HAP.out _ (hT.below hB2)).mono ?_
  rintro e w3 ⟨rfl, hb3⟩
  have hB3 := hB2.trans (hb3.mono hB2.size)
  clear hb3 hB2 HAP
  go_wp2_with fail
  refine (HAR.out _ (hT.below hB3)).mono ?_
  rintro e w4 ⟨rfl, hb4⟩
  have hB4 := hB3.trans (hb4.mono hB3.size)
  clear hb4 hB3 HAR
  go_wp2_with fail
  go_ret
  exact ⟨rfl, hB4⟩
set_option maxRecDepth 100000 in
set_option maxHeartbeats 8000000 in
theorem known_any (w : World) (hT : TT w) :
    Calls Tryd.prog 5 #[] w fun e w' => e = .returned (.bool true) ∧ Below w.heap.size w w' := by
  have HW1 : Hid (∀ W, TT W → Calls Tryd.prog 13 #[.string ⟨#[47, 46, 46]⟩, .int .i64 128] W fun e w' => e = .returned (.tuple #[.int .i64 18, .int .i64 400]) ∧ Below W.heap.size W w') := Lib.hid fun W h => by
    have k := why_any ([47, 46, 46] : List UInt8) (by decide) 128 W h.v
    rw [kn_W1] at k
    exact k
  have HW2 : Hid (∀ W, TT W → Calls Tryd.prog 13 #[.string ⟨#[47, 97, 98, 99]⟩, .int .i64 3] W fun e w' => e = .returned (.tuple #[.int .i64 4, .int .i64 414]) ∧ Below W.heap.size W w') := Lib.hid fun W h => by
    have k := why_any ([47, 97, 98, 99] : List UInt8) (by decide) 3 W h.v
    rw [kn_W2] at k
    exact k
  have HS1 : Hid (∀ W, TT W → Calls Tryd.prog 9 #[.string ⟨#[47, 97, 63, 98, 63, 99]⟩] W fun e w' => e = .returned (.tuple #[.string ⟨#[47, 97]⟩, .string ⟨#[98, 63, 99]⟩, .int .i64 0]) ∧ Below W.heap.size W w') := Lib.hid fun W h => by
    have k := split_any ([47, 97, 63, 98, 63, 99] : List UInt8) (by decide) W h.v
    rw [kn_S1] at k
    exact k
  have HS2 : Hid (∀ W, TT W → Calls Tryd.prog 9 #[.string ⟨#[47, 97, 32, 98]⟩] W fun e w' => e = .returned (.tuple #[.string ⟨#[]⟩, .string ⟨#[]⟩, .int .i64 3]) ∧ Below W.heap.size W w') := Lib.hid fun W h => by
    have k := split_any ([47, 97, 32, 98] : List UInt8) (by decide) W h.v
    rw [kn_S2] at k
    exact k
  have HT1 : Hid (∀ W, TT W → Calls Tryd.prog 15 #[.string ⟨#[47]⟩, .string ⟨#[]⟩] W fun e w' => e = .returned (.tuple #[.string ⟨#[47]⟩, .int .i64 0]) ∧ Below W.heap.size W w') := Lib.hid fun W h => by
    have k := text_any ([47] : List UInt8) ([] : List UInt8) (by decide) (by decide) W h.m
    rw [kn_T1] at k
    exact k
  have HC1 : Hid (∀ W, TT W → Calls Tryd.prog 17 #[.string ⟨#[47, 37, 54, 49, 47, 47, 98, 63]⟩] W fun e w' => e = .returned (.tuple #[.string ⟨#[47, 97, 47, 98]⟩, .int .i64 0]) ∧ Below W.heap.size W w') := Lib.hid fun W h => by
    have k := canonical_any ([47, 37, 54, 49, 47, 47, 98, 63] : List UInt8) (by decide) W h.v
    rw [kn_C1] at k
    exact k
  have HM1 : Hid (∀ W, TT W → Calls Tryd.prog 19 #[.string ⟨#[47, 97]⟩, .string ⟨#[47, 97, 63, 120]⟩] W fun e w' => e = .returned (.tuple #[.bool false, .int .i64 0]) ∧ Below W.heap.size W w') := Lib.hid fun W h => by
    have k := same_any ([47, 97] : List UInt8) ([47, 97, 63, 120] : List UInt8) (by decide) (by decide) W h.v
    rw [kn_M1] at k
    exact k
  have HP1 : Hid (∀ W, TT W → Calls Tryd.prog 23 #[.string ⟨#[47, 97, 47, 47, 46, 47, 98, 47, 46, 46, 47, 99, 47]⟩, .int .i64 128, .string ⟨#[47, 97, 47, 99, 47]⟩, .string ⟨#[]⟩] W fun e w' => e = .returned (.bool true) ∧ Below W.heap.size W w') := Lib.hid fun W h => by
    have k := parses_any ([47, 97, 47, 47, 46, 47, 98, 47, 46, 46, 47, 99, 47] : List UInt8) ([47, 97, 47, 99, 47] : List UInt8) ([] : List UInt8) (by decide) 128 W h
    rw [kn_P1] at k
    exact k
  have HP2 : Hid (∀ W, TT W → Calls Tryd.prog 23 #[.string ⟨#[47, 63]⟩, .int .i64 128, .string ⟨#[47]⟩, .string ⟨#[]⟩] W fun e w' => e = .returned (.bool true) ∧ Below W.heap.size W w') := Lib.hid fun W h => by
    have k := parses_any ([47, 63] : List UInt8) ([47] : List UInt8) ([] : List UInt8) (by decide) 128 W h
    rw [kn_P2] at k
    exact k
  have HR1 : Hid (∀ W, TT W → Calls Tryd.prog 24 #[.string ⟨#[97]⟩, .int .i64 128, .int .i64 400] W fun e w' => e = .returned (.bool true) ∧ Below W.heap.size W w') := Lib.hid fun W h => by
    have k := refused_any ([97] : List UInt8) (by decide) 128 400 W h
    rw [kn_R1] at k
    exact k
  have HR2 : Hid (∀ W, TT W → Calls Tryd.prog 24 #[.string ⟨#[47, 37, 50, 101, 37, 50, 101, 47, 97]⟩, .int .i64 128, .int .i64 400] W fun e w' => e = .returned (.bool true) ∧ Below W.heap.size W w') := Lib.hid fun W h => by
    have k := refused_any ([47, 37, 50, 101, 37, 50, 101, 47, 97] : List UInt8) (by decide) 128 400 W h
    rw [kn_R2] at k
    exact k
  have HP3 : Hid (∀ W, TT W → Calls Tryd.prog 23 #[.string ⟨#[47, 97, 37, 50, 102, 98]⟩, .int .i64 128, .string ⟨#[47, 97, 47, 98]⟩, .string ⟨#[]⟩] W fun e w' => e = .returned (.bool true) ∧ Below W.heap.size W w') := Lib.hid fun W h => by
    have k := parses_any ([47, 97, 37, 50, 102, 98] : List UInt8) ([47, 97, 47, 98] : List UInt8) ([] : List UInt8) (by decide) 128 W h
    rw [kn_P3] at k
    exact k
  have HR3 : Hid (∀ W, TT W → Calls Tryd.prog 24 #[.string ⟨#[47, 37, 48, 48]⟩, .int .i64 128, .int .i64 400] W fun e w' => e = .returned (.bool true) ∧ Below W.heap.size W w') := Lib.hid fun W h => by
    have k := refused_any ([47, 37, 48, 48] : List UInt8) (by decide) 128 400 W h
    rw [kn_R3] at k
    exact k
  have HR4 : Hid (∀ W, TT W → Calls Tryd.prog 24 #[.string ⟨#[47, 37, 48, 100]⟩, .int .i64 128, .int .i64 400] W fun e w' => e = .returned (.bool true) ∧ Below W.heap.size W w') := Lib.hid fun W h => by
    have k := refused_any ([47, 37, 48, 100] : List UInt8) (by decide) 128 400 W h
    rw [kn_R4] at k
    exact k
  have HR5 : Hid (∀ W, TT W → Calls Tryd.prog 24 #[.string ⟨#[47, 37, 52]⟩, .int .i64 128, .int .i64 400] W fun e w' => e = .returned (.bool true) ∧ Below W.heap.size W w') := Lib.hid fun W h => by
    have k := refused_any ([47, 37, 52] : List UInt8) (by decide) 128 400 W h
    rw [kn_R5] at k
    exact k
  have HR6 : Hid (∀ W, TT W → Calls Tryd.prog 24 #[.string ⟨#[47, 97, 35]⟩, .int .i64 128, .int .i64 400] W fun e w' => e = .returned (.bool true) ∧ Below W.heap.size W w') := Lib.hid fun W h => by
    have k := refused_any ([47, 97, 35] : List UInt8) (by decide) 128 400 W h
    rw [kn_R6] at k
    exact k
  have HR7 : Hid (∀ W, TT W → Calls Tryd.prog 24 #[.string ⟨#[47, 97, 98, 99]⟩, .int .i64 3, .int .i64 414] W fun e w' => e = .returned (.bool true) ∧ Below W.heap.size W w') := Lib.hid fun W h => by
    have k := refused_any ([47, 97, 98, 99] : List UInt8) (by decide) 3 414 W h
    rw [kn_R7] at k
    exact k
  have HP4 : Hid (∀ W, TT W → Calls Tryd.prog 23 #[.string ⟨#[47, 97, 98, 99]⟩, .int .i64 4, .string ⟨#[47, 97, 98, 99]⟩, .string ⟨#[]⟩] W fun e w' => e = .returned (.bool true) ∧ Below W.heap.size W w') := Lib.hid fun W h => by
    have k := parses_any ([47, 97, 98, 99] : List UInt8) ([47, 97, 98, 99] : List UInt8) ([] : List UInt8) (by decide) 4 W h
    rw [kn_P4] at k
    exact k
  have HP5 : Hid (∀ W, TT W → Calls Tryd.prog 23 #[.string ⟨#[47, 97, 47, 46, 46, 47, 98]⟩, .int .i64 2, .string ⟨#[47, 98]⟩, .string ⟨#[]⟩] W fun e w' => e = .returned (.bool true) ∧ Below W.heap.size W w') := Lib.hid fun W h => by
    have k := parses_any ([47, 97, 47, 46, 46, 47, 98] : List UInt8) ([47, 98] : List UInt8) ([] : List UInt8) (by decide) 2 W h
    rw [kn_P5] at k
    exact k
  have HR8 : Hid (∀ W, TT W → Calls Tryd.prog 24 #[.string ⟨#[47, 97]⟩, .int .i64 0, .int .i64 0] W fun e w' => e = .returned (.bool true) ∧ Below W.heap.size W w') := Lib.hid fun W h => by
    have k := refused_any ([47, 97] : List UInt8) (by decide) 0 0 W h
    rw [kn_R8] at k
    exact k
  obtain ⟨n, hn⟩ : ∃ n : Nat, n = 1025 := ⟨_, rfl⟩
  have HW3 : Hid (∀ W, TT W → Calls Tryd.prog 13 #[.string ⟨(sN n).toArray⟩, .int .i64 128] W fun e w' => e = .returned (.tuple #[.int .i64 4, .int .i64 414]) ∧ Below W.heap.size W w') := Lib.hid fun W h => by
    subst hn
    have k := why_any (sN 1025) (by decide) 128 W h.v
    rw [kn_W3] at k
    exact k
  have hmk : ∀ W : World, (Instr.makeSlice 43 (.int .i64 1025) (.int .i64 1025)).run Tryd.prog W = .ok (.slice (some ⟨W.heap.size, 0, none⟩) n n) (W.alloc (.cells (madeCells #[.int .u8 0] n) 5)) := fun W => by
    subst hn
    exact run_make_row' (P := Tryd.prog) 43 5 (.int .u8 0) 1 Tryd.underlying43 info8 rfl .i64 .i64 1025 (by omega) (by omega) W
  have hnb : n < 100000 := by omega
  clear hn
  have HAW := Lib.hid fun W h => awake_any W h
  have hB0 : Below w.heap.size w w := Below.refl _ _
  go_enter Tryd.func5, Tryd.ntmps5
  go_wp2_with fail
  refine (HW1.out _ (hT.below hB0)).mono ?_
  rintro e w1 ⟨rfl, hb1⟩
  have hB1 := hB0.trans (hb1.mono hB0.size)
  clear hb1 hB0 HW1
  go_wp2_with fail
  refine (HW2.out _ (hT.below hB1)).mono ?_
  rintro e w2 ⟨rfl, hb2⟩
  have hB2 := hB1.trans (hb2.mono hB1.size)
  clear hb2 hB1 HW2
  go_wp2_with fail
  refine (HS1.out _ (hT.below hB2)).mono ?_
  rintro e w3 ⟨rfl, hb3⟩
  have hB3 := hB2.trans (hb3.mono hB2.size)
  clear hb3 hB2 HS1
  go_wp2_with fail
  refine (HS2.out _ (hT.below hB3)).mono ?_
  rintro e w4 ⟨rfl, hb4⟩
  have hB4 := hB3.trans (hb4.mono hB3.size)
  clear hb4 hB3 HS2
  go_wp2_with fail
  refine (HT1.out _ (hT.below hB4)).mono ?_
  rintro e w5 ⟨rfl, hb5⟩
  have hB5 := hB4.trans (hb5.mono hB4.size)
  clear hb5 hB4 HT1
  go_wp2_with fail
  refine (HC1.out _ (hT.below hB5)).mono ?_
  rintro e w6 ⟨rfl, hb6⟩
  have hB6 := hB5.trans (hb6.mono hB5.size)
  clear hb6 hB5 HC1
  go_wp2_with fail
  refine (HM1.out _ (hT.below hB6)).mono ?_
  rintro e w7 ⟨rfl, hb7⟩
  have hB7 := hB6.trans (hb7.mono hB6.size)
  clear hb7 hB6 HM1
  go_wp2_with fail
  refine (HP1.out _ (hT.below hB7)).mono ?_
  rintro e w8 ⟨rfl, hb8⟩
  have hB8 := hB7.trans (hb8.mono hB7.size)
  clear hb8 hB7 HP1
  go_wp2_with fail
  refine (HP2.out _ (hT.below hB8)).mono ?_
  rintro e w9 ⟨rfl, hb9⟩
  have hB9 := hB8.trans (hb9.mono hB8.size)
  clear hb9 hB8 HP2
  go_wp2_with fail
  refine (HR1.out _ (hT.below hB9)).mono ?_
  rintro e w10 ⟨rfl, hb10⟩
  have hB10 := hB9.trans (hb10.mono hB9.size)
  clear hb10 hB9 HR1
  go_wp2_with fail
  refine (HR2.out _ (hT.below hB10)).mono ?_
  rintro e w11 ⟨rfl, hb11⟩
  have hB11 := hB10.trans (hb11.mono hB10.size)
  clear hb11 hB10 HR2
  go_wp2_with fail
  refine (HP3.out _ (hT.below hB11)).mono ?_
  rintro e w12 ⟨rfl, hb12⟩
  have hB12 := hB11.trans (hb12.mono hB11.size)
  clear hb12 hB11 HP3
  go_wp2_with fail
  refine (HR3.out _ (hT.below hB12)).mono ?_
  rintro e w13 ⟨rfl, hb13⟩
  have hB13 := hB12.trans (hb13.mono hB12.size)
  clear hb13 hB12 HR3
  go_wp2_with fail
  refine (HR4.out _ (hT.below hB13)).mono ?_
  rintro e w14 ⟨rfl, hb14⟩
  have hB14 := hB13.trans (hb14.mono hB13.size)
  clear hb14 hB13 HR4
  go_wp2_with fail
  refine (HR5.out _ (hT.below hB14)).mono ?_
  rintro e w15 ⟨rfl, hb15⟩
  have hB15 := hB14.trans (hb15.mono hB14.size)
  clear hb15 hB14 HR5
  go_wp2_with fail
  refine (HR6.out _ (hT.below hB15)).mono ?_
  rintro e w16 ⟨rfl, hb16⟩
  have hB16 := hB15.trans (hb16.mono hB15.size)
  clear hb16 hB15 HR6
  go_wp2_with fail
  refine (HR7.out _ (hT.below hB16)).mono ?_
  rintro e w17 ⟨rfl, hb17⟩
  have hB17 := hB16.trans (hb17.mono hB16.size)
  clear hb17 hB16 HR7
  go_wp2_with fail
  refine (HP4.out _ (hT.below hB17)).mono ?_
  rintro e w18 ⟨rfl, hb18⟩
  have hB18 := hB17.trans (hb18.mono hB17.size)
  clear hb18 hB17 HP4
  go_wp2_with fail
  refine (HP5.out _ (hT.below hB18)).mono ?_
  rintro e w19 ⟨rfl, hb19⟩
  have hB19 := hB18.trans (hb19.mono hB18.size)
  clear hb19 hB18 HP5
  go_wp2_with fail
  refine (HR8.out _ (hT.below hB19)).mono ?_
  rintro e w20 ⟨rfl, hb20⟩
  have hB20 := hB19.trans (hb20.mono hB19.size)
  clear hb20 hB19 HR8
  have HM := Lib.hid (SAt.made w20 n)
  have HB := Lib.hid (hB20.alloc hB20.size (.cells (madeCells #[.int .u8 0] n) 5))
  obtain ⟨B, hBe⟩ : ∃ B, w20.heap.size = B := ⟨_, rfl⟩
  have hlB : Hid (w.heap.size ≤ B) := Lib.hid (by rw [← hBe]; exact hB20.size)
  clear hB20
  go_wp2_with fail
  try rw [hBe]
  rw [hBe] at HM
  clear hmk hBe
  go_loopw [22] (fun i wr => ∃ k : Nat, k ≤ n ∧ i = .int .i64 k ∧ Hid (SAt wr B n k) ∧ Hid (Below w.heap.size w wr)) (fun i _ => n - (intOf i).toNat)
  case atStart => exact ⟨0, Nat.zero_le _, rfl, HM, HB⟩
  case round =>
    clear HM HB
    obtain ⟨k, hk, rfl, hb, hB⟩ := hrel
    by_cases hlt : k < n
    · have h1 : decide ((k : Int) < (n : Int)) = true := decide_eq_true (by omega)
      have h1n : decide (k < n) = true := decide_eq_true hlt
      have hb2 : (k : Int) < (n : Int) := by omega
      obtain ⟨hc1, hc2⟩ := hb.out.2 k hlt
      have hnext := Lib.hid (SAt.step hlt hb.out)
      have hBn : Hid (Below w.heap.size w (wr.setCell ⟨B, k, none⟩ (.int .u8 47))) := Lib.hid (hB.out.setCell hlB.out _)
      clear HAW HW3
      go_wp2_with fail
      go_roundw
      case rel => exact ⟨k + 1, by omega, by go_num, hnext, hBn⟩
      case measure => simp [intOf]; omega
    · have h1 : decide ((k : Int) < (n : Int)) = false := decide_eq_false (by omega)
      have h1n : decide (k < n) = false := decide_eq_false hlt
      obtain rfl : k = n := by omega
      have hcb := SAt.conv hb.out
      go_wp2_with fail
      refine (HW3.out _ (hT.below hB.out)).mono ?_
      rintro e wa ⟨rfl, hba⟩
      have hBa := hB.out.trans (hba.mono hB.out.size)
      clear hba hcb HW3
      go_wp2_with fail
      refine (HAW.out _ (hT.below hBa)).mono ?_
      rintro e wb ⟨rfl, hbb⟩
      have hBb := hBa.trans (hbb.mono hBa.size)
      go_wp2_with fail
      go_ret
      exact ⟨rfl, hBb⟩
end Go.Proofs.YtjinedeelkdgiaaDoor
