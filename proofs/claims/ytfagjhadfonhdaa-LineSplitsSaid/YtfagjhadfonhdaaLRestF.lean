/-
  What Rest and Split answer.
-/
import Derived.Test.YtfagjhadfonhdaaLFeedF
namespace Go.Proofs.Ytfagjhadfonhdaa
open Go.RowKit
/-- What Rest answers. -/
def restV (s : Sp) : Value := if chkS s = 0 then .tuple #[.string ⟨s.txt.toArray⟩, .int .i64 0] else .tuple #[.string ⟨#[]⟩, .int .i64 (chkS s : Nat)]
/-- What Split answers. -/
def splR (s : List UInt8) (n : Int) : (List Ln × List UInt8) × Nat := if n < 1 ∨ 1536 < n then (([], []), 2) else if (feedL n [] s).1.lg = true then (([], []), 4) else (((feedL n [] s).2, (feedL n [] s).1.txt), 0)
def SplitPost (base : Nat) (R : (List Ln × List UInt8) × Nat) (e : Ending) (w : World) : Prop := ∃ v, e = .returned (.tuple #[v, .string ⟨R.1.2.toArray⟩, .int .i64 (R.2 : Nat)]) ∧ w.ownsRow base 27 2 v R.1.1.length (lnsC R.1.1)
theorem errS_of {n : Int} (h : ¬ (n < 1 ∨ 1536 < n)) : errS ⟨n, [], false⟩ = 0 := by
  have h3 : chkS ⟨n, [], false⟩ = 0 := by
    unfold chkS
    dsimp only
    rw [if_neg h, if_neg (by simp; omega)]
    rfl
  unfold errS
  rw [if_pos h3]
  rfl
end Go.Proofs.Ytfagjhadfonhdaa
