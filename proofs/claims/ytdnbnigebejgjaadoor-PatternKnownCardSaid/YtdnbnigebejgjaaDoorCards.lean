/-
  DERIVED. GIVEN WITH THE SEED: THE CARDS: each row of YtdnbnigebejgjaaDoorRows.lean that lists a variable, with what it lists TIED to the program's text (the seventh form; the later family's looks); each row that meets fmt, with fmt's text TOLD by the authors' own Lean function (tested against real Go, not proved from fmt's source: count such statements apart). THE CARD IS WHAT COUNTS. Prove the row's statement (the work); the ties are given (YtdnbnigebejgjaaDoorTie.lean); close each card by the builder's one call (the guide's Derived/Test/ToyasCard.lean, 'card_holds'). Laid BY PROGRAM, IN A SANDBOX (cutbox-door.mjs). By AI agents, Wed Nov 11 2026. No macro, syntax, notation, axiom, sorry.
-/
import Derived.Test.YtdnbnigebejgjaaDoorRows
import GoSem.ClaimSeven
namespace Go.Proofs.YtdnbnigebejgjaaDoor
namespace Rows

/-- THE TIED CARD OF 'waypostlaw19.PatternKnown'. -/
def patternKnownCard : Claim7 := { stood := { row := patternKnownRow, standIns := [], harness := (true, "47dd22e26a3559f4ec666b6723781392b86d3be91c40872cb1ec79105642394e"), looks := false }, kinds := [], alts := [], laidByText := true, laidKinds := [.data, .data], laidTests := true, laidLooks := .later }
def PatternKnownCardSaid : Prop := Claim7.holds Tryd.pinned (.plain (OpenSpec.ofChange patternKnownSpec)) patternKnownCard

/-- THE TIED CARD OF 'waypostlaw19.PatternBack'. -/
def patternBackCard : Claim7 := { stood := { row := patternBackRow, standIns := [], harness := (true, "47dd22e26a3559f4ec666b6723781392b86d3be91c40872cb1ec79105642394e"), looks := false }, kinds := [], alts := [], laidByText := true, laidKinds := [.data, .data], laidTests := true, laidLooks := .later }
def PatternBackCardSaid : Prop := Claim7.holds Tryd.pinned (.plain (OpenSpec.ofChange patternBackSpec)) patternBackCard

/-- THE TIED CARD OF 'waypostlaw19.PatternKids'. -/
def patternKidsCard : Claim7 := { stood := { row := patternKidsRow, standIns := [], harness := (true, "47dd22e26a3559f4ec666b6723781392b86d3be91c40872cb1ec79105642394e"), looks := false }, kinds := [], alts := [], laidByText := true, laidKinds := [.data, .data], laidTests := true, laidLooks := .later }
def PatternKidsCardSaid : Prop := Claim7.holds Tryd.pinned (.plain (OpenSpec.ofChange patternKidsSpec)) patternKidsCard

/-- THE TIED CARD OF 'waypostlaw19.PatternGroups'. -/
def patternGroupsCard : Claim7 := { stood := { row := patternGroupsRow, standIns := [], harness := (true, "47dd22e26a3559f4ec666b6723781392b86d3be91c40872cb1ec79105642394e"), looks := false }, kinds := [], alts := [], laidByText := true, laidKinds := [.data, .data], laidTests := true, laidLooks := .later }
def PatternGroupsCardSaid : Prop := Claim7.holds Tryd.pinned (.plain (OpenSpec.ofChange patternGroupsSpec)) patternGroupsCard

/-- THE SECOND FORM's CARD OF 'waypostlaw19.PatternKnown'. -/
def patternKnownUptoCard : Claim7 := { stood := { row := patternKnownUptoRow, standIns := [], harness := (true, "47dd22e26a3559f4ec666b6723781392b86d3be91c40872cb1ec79105642394e"), looks := false }, kinds := [], alts := [], laidByText := true, laidKinds := [.data, .data], laidTests := true, laidLooks := .later }
def PatternKnownUptoCardSaid : Prop := Claim7.holds Tryd.pinned (.plain (OpenSpec.upto patternKnownSpec)) patternKnownUptoCard

/-- THE SECOND FORM's CARD OF 'waypostlaw19.PatternBack'. -/
def patternBackUptoCard : Claim7 := { stood := { row := patternBackUptoRow, standIns := [], harness := (true, "47dd22e26a3559f4ec666b6723781392b86d3be91c40872cb1ec79105642394e"), looks := false }, kinds := [], alts := [], laidByText := true, laidKinds := [.data, .data], laidTests := true, laidLooks := .later }
def PatternBackUptoCardSaid : Prop := Claim7.holds Tryd.pinned (.plain (OpenSpec.upto patternBackSpec)) patternBackUptoCard

/-- THE SECOND FORM's CARD OF 'waypostlaw19.PatternKids'. -/
def patternKidsUptoCard : Claim7 := { stood := { row := patternKidsUptoRow, standIns := [], harness := (true, "47dd22e26a3559f4ec666b6723781392b86d3be91c40872cb1ec79105642394e"), looks := false }, kinds := [], alts := [], laidByText := true, laidKinds := [.data, .data], laidTests := true, laidLooks := .later }
def PatternKidsUptoCardSaid : Prop := Claim7.holds Tryd.pinned (.plain (OpenSpec.upto patternKidsSpec)) patternKidsUptoCard

/-- THE SECOND FORM's CARD OF 'waypostlaw19.PatternGroups'. -/
def patternGroupsUptoCard : Claim7 := { stood := { row := patternGroupsUptoRow, standIns := [], harness := (true, "47dd22e26a3559f4ec666b6723781392b86d3be91c40872cb1ec79105642394e"), looks := false }, kinds := [], alts := [], laidByText := true, laidKinds := [.data, .data], laidTests := true, laidLooks := .later }
def PatternGroupsUptoCardSaid : Prop := Claim7.holds Tryd.pinned (.plain (OpenSpec.upto patternGroupsSpec)) patternGroupsUptoCard
end Rows
end Go.Proofs.YtdnbnigebejgjaaDoor
