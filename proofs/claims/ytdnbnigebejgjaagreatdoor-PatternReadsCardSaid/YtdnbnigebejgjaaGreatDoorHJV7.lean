/-
  The reference's reader of patterns: what stands behind a backslash.
-/
import Derived.Test.YtdnbnigebejgjaaGreatDoorHV4
import Derived.Test.YtdnbnigebejgjaaGreatDoorHJV6
namespace Go.Proofs.YtdnbnigebejgjaaGreatDoor
open Go.RowKit
attribute [local go_sem] w_0 w_1 w_2 w_3
theorem refOf1_at (b : UInt8) (W : World) (B : Nat) (fr : Nat × Nat) (hk : W.heap[B]? = some (.cells #[.int .u8 (b.toNat : Int)] 5 fr)) :
    Calls Tryz.prog 50 #[.slice (some ⟨B, 0, none⟩) 1 1] W fun e w' => e = .returned (ofW b).v ∧ Below W.heap.size W w' := by
  refine (refOf_any (some ⟨B, 0, none⟩) 1 1 (fun _ => b.toNat) (by unfold maxLen; omega) W ?_).mono ?_
  · intro j hj
    obtain rfl : j = 0 := by omega
    exact ⟨b.toNat_lt, B, 0, rfl, lt_of_block hk, by rw [cell_of_row _ _ _ _ _ _ hk]; rfl⟩
  · rintro e w' ⟨rfl, hb⟩
    exact ⟨rfl, hb⟩
def escB (b : UInt8) : WSet := if b = 100 then setW digitsL else if b = 119 then setW wordsL else ofW b
/-- What is behind a backslash: its set, and the state. -/
def escV (t : List UInt8) (s : RS) : WSet := match t[s.k]? with
  | none => .empty
  | some b => escB b
def escR (t : List UInt8) (s : RS) : RS := if s.k < t.length then ⟨s.k + 1, s.e, s.a⟩ else failR s 3 s.k
theorem RF.store {w : World} {B b : Nat} {t : List UInt8} {s : RS} {x2 x3 x4 x5 : Value} (h : RF w B t s x2 x3 x4 x5) (hb : b ≠ B) (x y z u : Value) : RF ((((w.setCell ⟨b, 0, none⟩ x).setCell ⟨b, 1, none⟩ y).setCell ⟨b, 2, none⟩ z).setCell ⟨b, 3, none⟩ u) B t s x2 x3 x4 x5 :=
  (((h.other ⟨b, 0, none⟩ hb x).other ⟨b, 1, none⟩ hb y).other ⟨b, 2, none⟩ hb z).other ⟨b, 3, none⟩ hb u
set_option maxHeartbeats 8000000 in
set_option maxRecDepth 100000 in
theorem rEscape_any (t : List UInt8) (s : RS) (x2 x3 x4 x5 : Value) (W : World) (B : Nat) (h : RF W B t s x2 x3 x4 x5) (h0 : s.e = 0) (hle : s.k ≤ t.length) :
    Calls Tryz.prog 110 #[.pointer (some ⟨B, 0, none⟩)] W fun e w' => e = .returned (escV t s).v ∧ RF w' B t (escR t s) x2 x3 x4 x5 ∧ W.grownBy w' (some B) := by
  obtain ⟨k, e0, a0⟩ := s
  dsimp only at h0 hle
  subst h0
  have hlen := h.len
  have hBW := h.lt
  obtain ⟨X, hX⟩ : ∃ X, W.alloc (.cells #[.int .u64 0, .int .u64 0, .int .u64 0, .int .u64 0] 41) = X := ⟨_, rfl⟩
  have r1 : Blk X W.heap.size .empty := by rw [← hX]; exact Blk.new0 W
  have h1 : RF X B t ⟨k, 0, a0⟩ x2 x3 x4 x5 := by rw [← hX]; exact h.alloc _
  have g1 : W.grownBy X (some B) := by rw [← hX]; exact jgal (jgrefl W _) _
  have HQ := Lib.hid fun m => h1.drewN m
  have HR1 := Lib.hid fun m => (show Blk (X.drewN m) W.heap.size .empty from r1)
  have HG := Lib.hid fun m => jgdrewN g1 m
  have HX := Lib.hid hX
  obtain ⟨c0, c1, c6, c7⟩ := h1.cells
  dsimp only at c1
  by_cases hend : k = t.length
  · have a1 : ((k : Int) == (t.length : Int)) = true := by rw [eq_nat]; exact decide_eq_true hend
    have HV : Hid (escV t ⟨k, 0, a0⟩ = .empty ∧ escR t ⟨k, 0, a0⟩ = failR ⟨k, 0, a0⟩ 3 k) := Lib.hid (by
      unfold escV escR
      rw [if_neg (by dsimp only; omega), List.getElem?_eq_none (by dsimp only; omega)]
      exact ⟨rfl, rfl⟩)
    have HW := Lib.hid fun W h => rWrong_any t ⟨k, 0, a0⟩ x2 x3 x4 x5 3 k W B h
    clear hend r1 h1 g1 h
    go_enter Tryz.func110, Tryz.ntmps110
    go_wp2_with fail
    go_quiet (fail)
    go_wp2_with fail
    refine (HW.out _ (HQ.out _)).mono ?_
    rintro e w3 ⟨rfl, h3, g3⟩
    have r3 : Blk w3 W.heap.size .empty := (g3.block _ (HR1.out 0).lt (fun e => by injection e; omega)).trans (HR1.out 0)
    obtain ⟨f0, f1, f2, f3⟩ := r3.frees
    obtain ⟨d0, d1, d2, d3⟩ := r3.cells
    go_wp2_with fail
    exact bodyPost_ret (r3.store0.results rfl _ rfl) rfl ⟨by rw [HV.out.1], by rw [HV.out.2]; exact h3.store (by omega) _ _ _ _, jgstore (jgtrans (HG.out _) g3) (Nat.le_refl _) _ _ _ _⟩
  · have hlt : k < t.length := by omega
    have a1 : ((k : Int) == (t.length : Int)) = false := by rw [eq_nat]; exact decide_eq_false hend
    have hx : k < (ByteArray.mk t.toArray).size := hlt
    have gg := ba_get t k hx
    obtain ⟨c, hc⟩ : ∃ c, t[k] = c := ⟨_, rfl⟩
    rw [hc] at gg
    have HV : Hid (escV t ⟨k, 0, a0⟩ = escB c ∧ escR t ⟨k, 0, a0⟩ = ⟨k + 1, 0, a0⟩) := Lib.hid (by
      unfold escV escR
      rw [if_pos hlt, List.getElem?_eq_getElem hlt, hc]
      exact ⟨rfl, rfl⟩)
    have ww1 : IntKind.i64.wrap ((k : Int) + 1) = (k : Int) + 1 := jwrap (by omega) (by omega)
    have hb9 : (k : Int) < (t.length : Int) := by omega
    have f1 := h1.free 1
    have HS := Lib.hid fun m => (h1.drewN m).step (by show k ≤ t.length; omega)
    dsimp only at HS
    clear hend hc r1 h1 g1 h
    go_enter Tryz.func110, Tryz.ntmps110
    go_wp2_with fail
    go_quiet (fail)
    go_wp2_with fail
    go_quiet (fail)
    go_upto_region 6 with fail
    generalize hY : World.setCell _ ⟨B, 1, none⟩ (.int .i64 ((k : Int) + 1)) = Y
    have h5 : RF Y B t ⟨k + 1, 0, a0⟩ x2 x3 x4 x5 := by rw [← hY]; exact HS.out _
    have r5 : Blk Y W.heap.size .empty := by rw [← hY]; exact (HR1.out _).other _ (by show B ≠ _; omega) _
    have g5 : W.grownBy Y (some B) := by rw [← hY]; exact jgtrans (HG.out _) (jgset _ B 1 _)
    clear hY c0 c1 c6 c7 f1 HQ HS HR1 HG HX hX ww1 gg hb9
    by_cases h100 : c = 100
    · subst h100
      have HV2 : Hid (escB 100 = setW digitsL) := Lib.hid (if_pos rfl)
      have b1 : (((100 : UInt8).toNat : Int) == 100) = true := by decide
      obtain ⟨S, hS⟩ : ∃ S, setW digitsL = S := ⟨_, rfl⟩
      have HD := Lib.hid fun W => digits19_any W
      rw [hS] at HV2 HD
      obtain ⟨s0, s1, s2, s3⟩ := S
      clear hS
      go_wp2_with fail
      refine (HD.out _).mono ?_
      rintro e w7 ⟨rfl, hb7⟩
      have h7 := h5.below hb7 h5.lt
      have r7 := r5.below hb7 r5.lt
      have g7 := jgbe g5 hb7
      obtain ⟨f0, f1, f2, f3⟩ := r7.frees
      obtain ⟨d0, d1, d2, d3⟩ := r7.cells
      go_wp2_with fail
      exact bodyPost_ret ((r7.store4 s0 s1 s2 s3).results rfl _ rfl) rfl ⟨by rw [HV.out.1, HV2.out], by rw [HV.out.2]; exact h7.store (by omega) _ _ _ _, jgstore g7 (Nat.le_refl _) _ _ _ _⟩
    · have b1 : ((c.toNat : Int) == 100) = false := by
        have : ¬ c.toNat = 100 := fun e => h100 (UInt8.toNat_inj.1 e)
        simpa using (by omega : ¬ (c.toNat : Int) = 100)
      by_cases h119 : c = 119
      · subst h119
        have HV2 : Hid (escB 119 = setW wordsL) := Lib.hid (by unfold escB; rw [if_neg (by decide), if_pos rfl])
        have b2 : (((119 : UInt8).toNat : Int) == 119) = true := by decide
        obtain ⟨S, hS⟩ : ∃ S, setW wordsL = S := ⟨_, rfl⟩
        have HD := Lib.hid fun W => words19_any W
        rw [hS] at HV2 HD
        obtain ⟨s0, s1, s2, s3⟩ := S
        clear hS
        go_wp2_with fail
        refine (HD.out _).mono ?_
        rintro e w7 ⟨rfl, hb7⟩
        have h7 := h5.below hb7 h5.lt
        have r7 := r5.below hb7 r5.lt
        have g7 := jgbe g5 hb7
        obtain ⟨f0, f1, f2, f3⟩ := r7.frees
        obtain ⟨d0, d1, d2, d3⟩ := r7.cells
        go_wp2_with fail
        exact bodyPost_ret ((r7.store4 s0 s1 s2 s3).results rfl _ rfl) rfl ⟨by rw [HV.out.1, HV2.out], by rw [HV.out.2]; exact h7.store (by omega) _ _ _ _, jgstore g7 (Nat.le_refl _) _ _ _ _⟩
      · have b2 : ((c.toNat : Int) == 119) = false := by
          have : ¬ c.toNat = 119 := fun e => h119 (UInt8.toNat_inj.1 e)
          simpa using (by omega : ¬ (c.toNat : Int) = 119)
        have HV2 : Hid (escB c = ofW c) := Lib.hid (by unfold escB; rw [if_neg h100, if_neg h119])
        obtain ⟨S, hS⟩ : ∃ S, ofW c = S := ⟨_, rfl⟩
        have HD := Lib.hid (refOf1_at c)
        rw [hS] at HV2 HD
        obtain ⟨s0, s1, s2, s3⟩ := S
        have h6 := h5.alloc (.cells #[.int .u8 (c.toNat : Int)] 5)
        have r6 := r5.alloc (.cells #[.int .u8 (c.toNat : Int)] 5)
        have g6 := jgal g5 (.cells #[.int .u8 (c.toNat : Int)] 5)
        clear hS h100 h119 h5 r5 g5
        go_wp2_with fail
        refine (HD.out _ _ _ (heap_alloc_new Y _)).mono ?_
        rintro e w7 ⟨rfl, hb7⟩
        have h7 := h6.below hb7 h6.lt
        have r7 := r6.below hb7 r6.lt
        have g7 := jgbe g6 hb7
        obtain ⟨f0, f1, f2, f3⟩ := r7.frees
        obtain ⟨d0, d1, d2, d3⟩ := r7.cells
        go_wp2_with fail
        exact bodyPost_ret ((r7.store4 s0 s1 s2 s3).results rfl _ rfl) rfl ⟨by rw [HV.out.1, HV2.out], by rw [HV.out.2]; exact h7.store (by omega) _ _ _ _, jgstore g7 (Nat.le_refl _) _ _ _ _⟩
end Go.Proofs.YtdnbnigebejgjaaGreatDoor
