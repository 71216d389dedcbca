/-
  The program's escape and Encode, for texts shorter than 100000 bytes.
-/
import Derived.Test.YtbbphchhdppipaaDoorUJBuild
import Derived.Test.YtbbphchhdppipaaDoorUProg3
namespace Go.Proofs.YtbbphchhdppipaaDoor
open Go.RowKit
theorem encE (z : UInt8) : encL WSet.empty [z] = [37, hexU (z.toNat / 16), hexU (z.toNat % 16)] := by
  show enc1 WSet.empty z ++ [] = _
  unfold enc1
  rw [has_empty, Bool.and_false]
  rfl
theorem code_stays {T : List UInt8} (h : (T.all fun b => stayS.has b.toNat) = true) : codeL T = T := by
  induction T with
  | nil => rfl
  | cons z r ih =>
    rw [List.all_cons, Bool.and_eq_true] at h
    show enc1 stayS z ++ codeL r = z :: r
    rw [code1_yes h.1, ih h.2]
    rfl
theorem code_at {T : List UInt8} {k : Nat} (hk : k < T.length) (h : ((T.take k).all fun b => stayS.has b.toNat) = true) (hz : stayS.has (T[k]).toNat = false) :
    codeL T = T.take k ++ ([37, hexU ((T[k]).toNat / 16), hexU ((T[k]).toNat % 16)] ++ codeL (T.drop (k + 1))) := by
  have e : T = T.take k ++ T[k] :: T.drop (k + 1) := by rw [← List.drop_eq_getElem_cons hk, List.take_append_drop]
  have e2 : codeL (T.take k ++ T[k] :: T.drop (k + 1)) = codeL (T.take k) ++ (enc1 stayS T[k] ++ codeL (T.drop (k + 1))) := by
    unfold codeL encL
    rw [List.flatMap_append, List.flatMap_cons]
  rw [← e] at e2
  rw [e2, code_stays h, code1_no hz]
def strLen : Value → Nat
  | .string s => s.size
  | _ => 0
set_option maxRecDepth 100000 in
set_option maxHeartbeats 4000000 in
theorem escape_q (x0 x1 x2 x3 : Value) (B b : Nat) (bs : List Value) (z : UInt8) (w : World) (h : EIs x0 x1 x2 x3 B b bs w) (hlen : bs.length + 3 ≤ 140737488355328) (hBw : B ≤ w.heap.size) :
    Calls Tryd.prog 42 #[.pointer (some ⟨b, 0, none⟩), .string ⟨#[z]⟩] w fun e w' => e = .returned (.tuple #[]) ∧ EIs x0 x1 x2 x3 B b (bs ++ Lib.byteCells [37, hexU (z.toNat / 16), hexU (z.toNat % 16)]) w' ∧ Below B w w' := by
  have HE : Hid (∀ W, Calls Tryd.prog 64 #[.string ⟨#[z]⟩, .agg #[.int .u64 0, .int .u64 0, .int .u64 0, .int .u64 0]] W fun e w' => e = .returned (.string ⟨([37, hexU (z.toNat / 16), hexU (z.toNat % 16)] : List UInt8).toArray⟩) ∧ Below W.heap.size W w') := Lib.hid fun W => by
    have h := encode_any [z] (by simp) 0 0 0 0 W
    rw [show (WSet.mk 0 0 0 0) = WSet.empty from rfl, encE] at h
    exact h
  obtain ⟨C, hC⟩ : ∃ C, ([37, hexU (z.toNat / 16), hexU (z.toNat % 16)] : List UInt8) = C := ⟨_, rfl⟩
  have hCl : C.length = 3 := by rw [← hC]; rfl
  rw [hC] at HE ⊢
  clear hC
  have hX := h.below (Below.alloc (Below.refl _ w) (Nat.le_refl _) (.cells #[.int .u64 0, .int .u64 0, .int .u64 0, .int .u64 0] 25))
  have hBX := (Below.refl B w).alloc hBw (.cells #[.int .u64 0, .int .u64 0, .int .u64 0, .int .u64 0] 25)
  have b0 := Blk.new0 w
  obtain ⟨c0, c1, c2, c3⟩ := b0.cells4
  go_enter Tryd.func42, Tryd.ntmps42
  go_upto_region 1 with fail
  obtain ⟨X, hXe⟩ : ∃ X, w.alloc (.cells #[.int .u64 0, .int .u64 0, .int .u64 0, .int .u64 0] 25) = X := ⟨_, rfl⟩
  rw [hXe] at hX hBX b0 c0 c1 c2 c3 ⊢
  clear hXe h
  have lz := b0.lt
  go_region_with (first
    | (go_at_call 64; refine (HE.out _).mono ?_; rintro e w5 ⟨rfl, hb5⟩; have h5 : EIs x0 x1 x2 x3 B b bs w5 := EIs.below (w := X.drew) hX hb5; have hB5 : Below B w w5 := (hBX.drew).trans (hb5.mono (Nat.le_trans hBw hBX.drew.size)))
    | (go_at_call 41; refine (e_writeString_any x0 x1 x2 x3 B b bs C _ h5 (by omega) (Nat.le_trans hBw hB5.size)).mono ?_; rintro e w6 ⟨rfl, h6, hb6⟩))
  all_goals
    go_wp2_with fail
    go_end0
    exact ⟨rfl, .inr h6, hB5.trans hb6⟩
end Go.Proofs.YtbbphchhdppipaaDoor
