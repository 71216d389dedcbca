/-
  DERIVED. GIVEN WITH THE SEED: THE CARDS: each row of YtdnbnigebejgjaaGreatDoorRows.lean that lists a variable, with what it lists TIED to the program's text (the seventh form; the later family's looks); each row that meets fmt, with fmt's text TOLD by the authors' own Lean function (tested against real Go, not proved from fmt's source: count such statements apart). THE CARD IS WHAT COUNTS. Prove the row's statement (the work); the ties are given (YtdnbnigebejgjaaGreatDoorTie.lean); close each card by the builder's one call (the guide's Derived/Test/ToyasCard.lean, 'card_holds'). Laid BY PROGRAM, IN A SANDBOX (cutbox-door.mjs). By AI agents, Wed Nov 11 2026. No macro, syntax, notation, axiom, sorry.
-/
import Derived.Test.YtdnbnigebejgjaaGreatDoorRows
import GoSem.ClaimSeven
namespace Go.Proofs.YtdnbnigebejgjaaGreatDoor
namespace Rows

/-- THE TIED CARD OF 'waypostlaw19.PatternReads'. -/
def patternReadsCard : Claim7 := { stood := { row := patternReadsRow, standIns := [], harness := (true, "33980b82a2329449e89b2b3f72b19044f182e8ea4a94e69bb78a6b2d7899f8a9"), looks := false }, kinds := [], alts := [], laidByText := true, laidKinds := [.data, .data], laidTests := true, laidLooks := .later }
def PatternReadsCardSaid : Prop := Claim7.holds Tryz.pinned (.plain (OpenSpec.ofChange patternReadsSpec)) patternReadsCard

/-- THE TIED CARD OF 'waypostlaw19.PatternWrites'. -/
def patternWritesCard : Claim7 := { stood := { row := patternWritesRow, standIns := [], harness := (true, "33980b82a2329449e89b2b3f72b19044f182e8ea4a94e69bb78a6b2d7899f8a9"), looks := false }, kinds := [], alts := [], laidByText := true, laidKinds := [.data, .data], laidTests := true, laidLooks := .later }
def PatternWritesCardSaid : Prop := Claim7.holds Tryz.pinned (.plain (OpenSpec.ofChange patternWritesSpec)) patternWritesCard

/-- THE TIED CARD OF 'waypostlaw19.PatternLooks'. -/
def patternLooksCard : Claim7 := { stood := { row := patternLooksRow, standIns := [], harness := (true, "33980b82a2329449e89b2b3f72b19044f182e8ea4a94e69bb78a6b2d7899f8a9"), looks := false }, kinds := [], alts := [], laidByText := true, laidKinds := [.data, .data], laidTests := true, laidLooks := .later }
def PatternLooksCardSaid : Prop := Claim7.holds Tryz.pinned (.plain (OpenSpec.ofChange patternLooksSpec)) patternLooksCard

/-- THE SECOND FORM's CARD OF 'waypostlaw19.PatternReads'. -/
def patternReadsUptoCard : Claim7 := { stood := { row := patternReadsUptoRow, standIns := [], harness := (true, "33980b82a2329449e89b2b3f72b19044f182e8ea4a94e69bb78a6b2d7899f8a9"), looks := false }, kinds := [], alts := [], laidByText := true, laidKinds := [.data, .data], laidTests := true, laidLooks := .later }
def PatternReadsUptoCardSaid : Prop := Claim7.holds Tryz.pinned (.plain (OpenSpec.upto patternReadsSpec)) patternReadsUptoCard

/-- THE SECOND FORM's CARD OF 'waypostlaw19.PatternWrites'. -/
def patternWritesUptoCard : Claim7 := { stood := { row := patternWritesUptoRow, standIns := [], harness := (true, "33980b82a2329449e89b2b3f72b19044f182e8ea4a94e69bb78a6b2d7899f8a9"), looks := false }, kinds := [], alts := [], laidByText := true, laidKinds := [.data, .data], laidTests := true, laidLooks := .later }
def PatternWritesUptoCardSaid : Prop := Claim7.holds Tryz.pinned (.plain (OpenSpec.upto patternWritesSpec)) patternWritesUptoCard

/-- THE SECOND FORM's CARD OF 'waypostlaw19.PatternLooks'. -/
def patternLooksUptoCard : Claim7 := { stood := { row := patternLooksUptoRow, standIns := [], harness := (true, "33980b82a2329449e89b2b3f72b19044f182e8ea4a94e69bb78a6b2d7899f8a9"), looks := false }, kinds := [], alts := [], laidByText := true, laidKinds := [.data, .data], laidTests := true, laidLooks := .later }
def PatternLooksUptoCardSaid : Prop := Claim7.holds Tryz.pinned (.plain (OpenSpec.upto patternLooksSpec)) patternLooksUptoCard
end Rows
end Go.Proofs.YtdnbnigebejgjaaGreatDoor
