/-
  The law TargetPaths returns true for every input, and leaves all as it was, for every memory that holds the listed tables of the library as their initialisers lay them; and the card that ties these tables to the program's text.
-/
import Derived.Test.YtjinedeelkdgiaaDoorHKPost
import Derived.Test.YtjinedeelkdgiaaDoorHGLaid
import Derived.Test.YtjinedeelkdgiaaDoorTie
import Derived.Test.YtjinedeelkdgiaaDoorCards
import Derived.MakeChecks
import Derived.Lay
import Derived.LaidMore
import Derived.SevenTiedAt
import Derived.Stop.Joined
import Derived.Deep.DeepHandedRow
import Derived.Test.YtjinedeelkdgiaaDoorHSlInts
import Derived.Test.YtjinedeelkdgiaaDoorHGL4
namespace Go.Proofs.YtjinedeelkdgiaaDoor.targetPaths
open Go.ChangeShapes Go.WideShapes Go.ChangeAt Go.RowKit
set_option maxRecDepth 100000 in
theorem contract (H : Type) (enc : TypeId × Value → H) (W : World) (args : Array Value) (ds gs : List (DataW H)) (before : List MemPlace)
    (hW : DataW.Whole enc Tryd.prog Tryd.f7.params.toList Rows.targetPathsSpec.vars false W args.toList ds gs before) {base : Nat} (hval0 : ∀ (j : Nat) t v, Tryd.f7.params[j]? = some t → args[j]? = some v → Value.okWide Tryd.prog W .any base t v) (hL : laidMetH Tryd.prog Rows.targetPathsRow.laid W) (hSh : W.ShapedOpen Tryd.prog) :
    Calls Tryd.prog 7 args W fun e W' => ∃ v, e = .returned v ∧ Rows.targetPathsSpec.post enc Tryd.prog Tryd.f7 false true false false W args v W' := by
  have hT : TT W := ⟨vt_of (L := Rows.targetPathsRow.laid) (by rw [← MakeChecks.laidMetH_plain _ _ _ (by kernel_rfl)]; exact hL) (List.Mem.tail _ (List.Mem.head _)), ML.of hSh⟩
  have k := hval0
  have hW' := hW
  obtain ⟨p, q, hA0, hV, rfl, hfz, hnd⟩ := hW
  have hA : DataW.TrodAll enc Tryd.prog W 0 (fun _ => true) true Tryd.f7.params.toList args.toList ds p := hA0
  rw [Tryd.params7] at hA k
  obtain ⟨v0, v1, v2, v3, d0, d1, d2, d3, z0, z1, z2, z3, rfl, rfl, rfl, h0, h1, h2, h3⟩ := trodAll_four hA
  obtain ⟨rfl, rfl⟩ := trodVars_none hV
  have low : ∀ x ∈ z0 ++ z1 ++ z2 ++ z3, x.block < W.heap.size := fun x hx => by simpa using hW'.lt x (by simpa using hx)
  obtain ⟨x1, rfl, rfl, rfl, g1⟩ := Go.ChangeMaps.open_string Tryd.underlying9 (k 0 _ _ rfl rfl) h0
  obtain ⟨x2, rfl, rfl, rfl, g2⟩ := open_int Tryd.underlying3 (k 1 _ _ rfl rfl) h1
  obtain ⟨x3, rfl, rfl, rfl, g3⟩ := open_int Tryd.underlying3 (k 2 _ _ rfl rfl) h2
  obtain ⟨p4, n4, c4, f4, rfl, q4, hf4, C4⟩ := open_intsF (k 3 _ _ rfl rfl) h3
  clear hA0 hval0
  refine (paths_any x1.data.toList x2 x3 p4 n4 c4 f4 W hT C4).mono fun e W' ⟨he, hg⟩ => ?_
  subst he
  exact ⟨_, rfl, post_kept (pa := [] ++ ([] ++ ([] ++ (z3)))) (pv := []) hW' (fun _ _ _ => trodAll_cons_mk (shut_bool Tryd.underlying4 _) trodAll_mk0) (fun sp hsp => trodAll_mk4 (Go.ChangeMaps.shut_string Tryd.underlying9 g1) (shut_int Tryd.underlying3 g2) (shut_int Tryd.underlying3 g3) (stays (by kernel_rfl) (of_decide_eq_true (by kernel_rfl)) h3 hg (fun x hx => low x (by simp [hx])) (fun x hx => hsp x (by simp [hx])))) (fun _ _ => rfl) (by simp) hg (ok_one (by kernel_rfl) rfl (okWide_bool_mk Tryd.underlying4 _))⟩
def zeros : Array Value := #[.string ⟨#[]⟩, .int .i64 0, .int .i64 0, .slice none 0 0]
noncomputable def laidWorld (os : Os) : World := World.laidAll Tryd.prog os Rows.targetPathsRow.laid
theorem laid_met (os : Os) : laidMetH Tryd.prog Rows.targetPathsRow.laid ((laidWorld os).forCall (fun _ _ => 0) ⟨#[], zeros, []⟩).memory := by
  rw [MakeChecks.laidMetH_plain _ _ _ (by kernel_rfl)]
  exact laidMet_laidAll _ (by kernel_rfl) (by kernel_rfl)
theorem reads (os : Os) {H : Type} (enc : TypeId × Value → H) : ∃ places, DataW.whole enc Tryd.prog ((laidWorld os).forCall (fun _ _ => 0) ⟨#[], zeros, []⟩).memory Tryd.f7.params.toList Rows.targetPathsSpec.vars false zeros.toList 8 = some ([.lit (.string []), .lit (.int .i64 0), .lit (.int .i64 0), .nil], [], places) :=
  ⟨[], by kernel_rfl⟩
set_option maxRecDepth 100000 in
theorem lifted (os : Os) (started : os.Started) (H : Type) (enc : TypeId × Value → H) (F : Stop.Interp) :
    ReturnsInHanded {} Tryd.checked os 7 .any ((OpenSpec.ofChange Rows.targetPathsSpec).preRow enc Tryd.prog Tryd.f7 Rows.targetPathsRow.domain false Rows.targetPathsRow.laid) (((OpenSpec.ofChange Rows.targetPathsSpec).at F).post enc Tryd.prog Tryd.f7 false true false false) := by
  obtain ⟨places, hx⟩ := reads os enc
  refine returnsInHanded_of_row (C := Tryd.checked) (s := OpenSpec.ofChange Rows.targetPathsSpec) own started (by kernel_rfl) Tryd.func7
    (witness_row_at (enc := enc) (C := Tryd.checked) false (laidWorld os) zeros (World.laidAll_os _ _ _) (by kernel_rfl) (by kernel_rfl) (by kernel_rfl)
      (OpenSpec.preRow_of_cond 8 hx (by kernel_rfl) (fun k hk => by cases hk) (by kernel_rfl) (laid_met os))) ?_
  intro W base args ds gs before hval hW _ _ _ hL hSh _
  exact contract H enc W args ds gs before hW hval hL hSh
theorem said : Rows.TargetPathsSaid :=
  OpenClaim.holds_of_cond 7 Tryd.f7 rfl rfl rfl rfl rfl rfl rfl ⟨rfl, rfl, rfl, rfl, rfl⟩ rfl rfl rfl rfl rfl (by kernel_rfl) Tryd.func7 (by kernel_rfl)
    (of_decide_eq_true (by kernel_rfl)) (by unfold Func.isWrapper; first | (rw [if_pos (by decide +kernel)]; kernel_rfl) | (rw [if_neg (by decide +kernel)]; exact ⟨rfl, rfl⟩))
    (fun os started H enc _ F => by rw [OpenClaim.pre_eq_preRow]; exact lifted os started H enc F)
theorem plain (f : FuncId) (fn : Func) (hf : Tryd.pinned.checked.prog.funcNamed "waypost/waypostlaw18.TargetPaths" = some f) (hfn : Tryd.pinned.checked.prog.funcs[f]? = some fn) :
    false = Tryd.pinned.checked.prog.looks [] ∧ ∀ (j : Nat) t, fn.params[j]? = some t → Tryd.pinned.checked.prog.wantsStandIn t = false := by
  obtain rfl : f = 7 := Option.some.inj ((show Tryd.prog.funcNamed "waypost/waypostlaw18.TargetPaths" = some 7 by kernel_rfl).symm.trans hf) |>.symm
  obtain rfl : fn = Tryd.f7 := (Option.some.inj (Tryd.func7.symm.trans hfn)).symm
  refine ⟨by kernel_rfl, fun j t ht => ?_⟩
  rw [Tryd.params7] at ht
  match j with
  | 0 => simp at ht; subst ht; exact (show Tryd.pinned.checked.prog.wantsStandIn 9 = false by kernel_rfl)
  | 1 => simp at ht; subst ht; exact (show Tryd.pinned.checked.prog.wantsStandIn 3 = false by kernel_rfl)
  | 2 => simp at ht; subst ht; exact (show Tryd.pinned.checked.prog.wantsStandIn 3 = false by kernel_rfl)
  | 3 => simp at ht; subst ht; exact (show Tryd.pinned.checked.prog.wantsStandIn 44 = false by kernel_rfl)
  | j + 4 => simp at ht
/-- The card. -/
theorem card : Rows.TargetPathsCardSaid :=
  Claim7.holds_tied_plain_at .later [] _ _ _ _ said (fun _ h => by cases h) (by kernel_rfl) (fun _ h => by cases h) targetPaths_row_tie rfl ⟨rfl, rfl⟩ (by kernel_rfl) rfl plain (by kernel_rfl)
end Go.Proofs.YtjinedeelkdgiaaDoor.targetPaths
