/-
  The law LineBack returns true for every input, and leaves all as it was.
-/
import Derived.Test.YtfagjhadfonhdaaKPost
import Derived.Test.YtfagjhadfonhdaaLSl
import Derived.Test.YtfagjhadfonhdaaLBack
namespace Go.Proofs.Ytfagjhadfonhdaa.lineBack
open Go.ChangeShapes Go.WideShapes Go.ChangeAt Go.RowKit
theorem back_at (p : Option Addr) (n c : Nat) (f : Nat → Int) (rest : Int) (W : World) (h : CellsIn W p (n * 1) (intC f)) :
    Calls Try.prog 7 #[.slice p n c, .int .i64 rest] W fun e w' => e = .returned (.bool true) ∧ Below W.heap.size W w' := by
  have := back7_law ((List.range n).map f) p c rest W (ints_list h)
  rw [ints_len] at this
  exact this
set_option maxRecDepth 100000 in
theorem lifted (os : Os) (started : os.Started) (H : Type) (enc : TypeId × Value → H) :
    ReturnsInHanded {} Try.checked os 7 .any (Rows.lineBackSpec.pre6 enc Try.prog Try.f7 Rows.lineBackRow.domain false) (Rows.lineBackSpec.post enc Try.prog Try.f7 false true false false) := by
  refine returnsInHanded_of_change (C := Try.checked) own started (by kernel_rfl) Try.func7
    (ChangeSpec.witness6 (enc := enc) (C := Try.checked) false ⟨#[], #[.slice none 0 0, .int .i64 0], []⟩ 8 (by kernel_rfl) (by kernel_rfl) (by kernel_rfl) (by kernel_rfl)) ?_
  intro W base args ds gs before hval0 hW hcnd _
  have k : ∀ (j : Nat) t v, Try.f7.params[j]? = some t → args[j]? = some v → Value.okWide Try.prog W .any base t v := hval0
  have hW' := hW
  obtain ⟨p, q, hA0, hV, rfl, hfz, hnd⟩ := hW
  have hA : DataW.TrodAll enc Try.prog W 0 (fun _ => true) true Try.f7.params.toList args.toList ds p := hA0
  rw [Try.params7] at hA k
  obtain ⟨v0, v1, d0, d1, z0, z1, rfl, rfl, rfl, h0, h1⟩ := trodAll_two hA
  obtain ⟨rfl, rfl⟩ := trodVars_none hV
  have low : ∀ x ∈ z0 ++ z1, x.block < W.heap.size := fun x hx => by simpa using hW'.lt x (by simpa using hx)
  obtain ⟨p1, n1, c1, f1, rfl, q1, hf1, C1⟩ := open_intsF (k 0 _ _ rfl rfl) h0
  obtain ⟨x2, rfl, rfl, rfl, g2⟩ := open_int Try.underlying3 (k 1 _ _ rfl rfl) h1
  clear hA0 hval0
  refine (back_at p1 n1 c1 f1 x2 W C1).mono fun e W' ⟨he, hg⟩ => ?_
  subst he
  exact ⟨_, rfl, post_kept (pa := z0 ++ ([])) (pv := []) hW' (fun _ _ _ => trodAll_cons_mk (shut_bool Try.underlying4 _) trodAll_mk0) (fun sp hsp => trodAll_mk2 (stays (by kernel_rfl) (of_decide_eq_true (by kernel_rfl)) h0 hg (fun x hx => low x (by simp [hx])) (fun x hx => hsp x (by simp [hx]))) (shut_int Try.underlying3 g2)) (fun _ _ => rfl) (by simp) hg (ok_one (by kernel_rfl) rfl (okWide_bool_mk Try.underlying4 _))⟩
theorem said : Rows.LineBackSaid :=
  OpenClaim.holds_of_wide 7 Try.f7 rfl rfl rfl rfl rfl rfl rfl ⟨rfl, rfl, rfl, rfl, rfl⟩ rfl rfl rfl rfl rfl (by kernel_rfl) Try.func7 (by kernel_rfl)
    (of_decide_eq_true (by kernel_rfl)) (by unfold Func.isWrapper; first | (rw [if_pos (by decide +kernel)]; kernel_rfl) | (rw [if_neg (by decide +kernel)]; exact ⟨rfl, rfl⟩))
    (fun os started H enc _ => lifted os started H enc)
end Go.Proofs.Ytfagjhadfonhdaa.lineBack
