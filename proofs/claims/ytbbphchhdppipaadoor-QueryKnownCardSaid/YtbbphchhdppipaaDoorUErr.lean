/-
  The names of the errors that the chapter's examples ask for; the law text's own text and long.
-/
import Derived.Test.YtbbphchhdppipaaDoorULaw0
namespace Go.Proofs.YtbbphchhdppipaaDoor
open Go.RowKit
section
attribute [local go_sem] ba_get
set_option maxRecDepth 100000 in
set_option maxHeartbeats 4000000 in
theorem error3_any (w : World) :
    Calls Tryd.prog 35 #[.int .i64 3] w fun e w' => e = .returned (.string ⟨#[102, 111, 114, 109]⟩) ∧ w = w' := by
  go_enter Tryd.func35, Tryd.ntmps35
  go_wp2_with fail
  go_loopw [3] (fun s wr => ∃ k : Nat, k ≤ 6 ∧ s = .string ⟨(([102, 111, 114, 109] : List UInt8) ++ List.replicate k 32).toArray⟩ ∧ wr = w) (fun s _ => strLen s)
  case atStart => exact ⟨6, by omega, by kernel_rfl, rfl⟩
  case round =>
  obtain ⟨k, hk, rfl, rfl⟩ := hrel
  cases k with
  | zero =>
    have x0 : ((ByteArray.mk #[102, 111, 114, 109])[3]'(by decide)).toNat = 109 := rfl
    go_wp2_with fail
    go_ret
    exact ⟨rfl, rfl⟩
  | succ k =>
    have e0 : ([102, 111, 114, 109] : List UInt8) ++ List.replicate (k + 1) 32 = ([102, 111, 114, 109] ++ List.replicate k 32) ++ [32] := by rw [List.replicate_succ', List.append_assoc]
    rw [e0]
    have hUl : (([102, 111, 114, 109] : List UInt8) ++ List.replicate k 32).length = k + 4 := by simp
    obtain ⟨U, hU⟩ : ∃ U, ([102, 111, 114, 109] : List UInt8) ++ List.replicate k 32 = U := ⟨_, rfl⟩
    rw [hU] at hUl ⊢
    have HU := Lib.hid hU
    obtain ⟨T, hT⟩ : ∃ T, U ++ [32] = T := ⟨_, rfl⟩
    have hTl : T.length = k + 5 := by rw [← hT]; simp [hUl]
    have hx : (T[k + 4]'(by omega)).toNat = 32 := by subst hT; simp [← hUl]
    have f1 : (ByteArray.mk T.toArray).extract 0 (k + 5 - 1) = ⟨U.toArray⟩ := by
      rw [show k + 5 - 1 = k + 4 from by omega]
      subst hT
      have f := ba_fst (U ++ [32]) U.length
      rw [List.take_left' rfl, hUl] at f
      exact f
    rw [hT]
    clear hT e0 hU
    have hb1 : ((k + 4 : Nat) : Int) < (T.length : Int) := by omega
    have hb2 : ((k + 4 : Nat) : Int) ≤ (T.length : Int) := by omega
    go_wp2_with fail
    go_roundw
    case rel => exact ⟨k, by omega, by rw [f1, HU.out], trivial⟩
    case measure => rw [f1]; simp [strLen, hUl, hTl, ByteArray.size]
set_option maxRecDepth 100000 in
set_option maxHeartbeats 4000000 in
theorem error4_any (w : World) :
    Calls Tryd.prog 35 #[.int .i64 4] w fun e w' => e = .returned (.string ⟨#[108, 111, 110, 103]⟩) ∧ w = w' := by
  go_enter Tryd.func35, Tryd.ntmps35
  go_wp2_with fail
  go_loopw [3] (fun s wr => ∃ k : Nat, k ≤ 6 ∧ s = .string ⟨(([108, 111, 110, 103] : List UInt8) ++ List.replicate k 32).toArray⟩ ∧ wr = w) (fun s _ => strLen s)
  case atStart => exact ⟨6, by omega, by kernel_rfl, rfl⟩
  case round =>
  obtain ⟨k, hk, rfl, rfl⟩ := hrel
  cases k with
  | zero =>
    have x0 : ((ByteArray.mk #[108, 111, 110, 103])[3]'(by decide)).toNat = 103 := rfl
    go_wp2_with fail
    go_ret
    exact ⟨rfl, rfl⟩
  | succ k =>
    have e0 : ([108, 111, 110, 103] : List UInt8) ++ List.replicate (k + 1) 32 = ([108, 111, 110, 103] ++ List.replicate k 32) ++ [32] := by rw [List.replicate_succ', List.append_assoc]
    rw [e0]
    have hUl : (([108, 111, 110, 103] : List UInt8) ++ List.replicate k 32).length = k + 4 := by simp
    obtain ⟨U, hU⟩ : ∃ U, ([108, 111, 110, 103] : List UInt8) ++ List.replicate k 32 = U := ⟨_, rfl⟩
    rw [hU] at hUl ⊢
    have HU := Lib.hid hU
    obtain ⟨T, hT⟩ : ∃ T, U ++ [32] = T := ⟨_, rfl⟩
    have hTl : T.length = k + 5 := by rw [← hT]; simp [hUl]
    have hx : (T[k + 4]'(by omega)).toNat = 32 := by subst hT; simp [← hUl]
    have f1 : (ByteArray.mk T.toArray).extract 0 (k + 5 - 1) = ⟨U.toArray⟩ := by
      rw [show k + 5 - 1 = k + 4 from by omega]
      subst hT
      have f := ba_fst (U ++ [32]) U.length
      rw [List.take_left' rfl, hUl] at f
      exact f
    rw [hT]
    clear hT e0 hU
    have hb1 : ((k + 4 : Nat) : Int) < (T.length : Int) := by omega
    have hb2 : ((k + 4 : Nat) : Int) ≤ (T.length : Int) := by omega
    go_wp2_with fail
    go_roundw
    case rel => exact ⟨k, by omega, by rw [f1, HU.out], trivial⟩
    case measure => rw [f1]; simp [strLen, hUl, hTl, ByteArray.size]
end
end Go.Proofs.YtbbphchhdppipaaDoor
