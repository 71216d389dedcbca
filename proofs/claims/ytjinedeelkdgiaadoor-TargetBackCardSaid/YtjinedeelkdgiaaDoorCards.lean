/-
  DERIVED. GIVEN WITH THE SEED: THE CARDS: each row of YtjinedeelkdgiaaDoorRows.lean that lists a variable, with what it lists TIED to the program's text (the seventh form; the later family's looks); each row that meets fmt, with fmt's text TOLD by the authors' own Lean function (tested against real Go, not proved from fmt's source: count such statements apart). THE CARD IS WHAT COUNTS. Prove the row's statement (the work); the ties are given (YtjinedeelkdgiaaDoorTie.lean); close each card by the builder's one call (the guide's Derived/Test/ToyasCard.lean, 'card_holds'). Laid BY PROGRAM, IN A SANDBOX (cutbox-door.mjs). By AI agents, Wed Nov 11 2026. No macro, syntax, notation, axiom, sorry.
-/
import Derived.Test.YtjinedeelkdgiaaDoorRows
import GoSem.ClaimSeven
namespace Go.Proofs.YtjinedeelkdgiaaDoor
namespace Rows

/-- THE TIED CARD OF 'waypostlaw18.TargetReads'. -/
def targetReadsCard : Claim7 := { stood := { row := targetReadsRow, standIns := [], harness := (true, "8ed39612269683f8f47b2e029ec8ac1e9d1914ca45e41d275f23316dcb5b4f13"), looks := false }, kinds := [], alts := [], laidByText := true, laidKinds := [.data, .data, .pinned], laidTests := true, laidLooks := .later }
def TargetReadsCardSaid : Prop := Claim7.holds Tryd.pinned (.plain (OpenSpec.ofChange targetReadsSpec)) targetReadsCard

/-- THE TIED CARD OF 'waypostlaw18.TargetWrites'. -/
def targetWritesCard : Claim7 := { stood := { row := targetWritesRow, standIns := [], harness := (true, "8ed39612269683f8f47b2e029ec8ac1e9d1914ca45e41d275f23316dcb5b4f13"), looks := false }, kinds := [], alts := [], laidByText := true, laidKinds := [.data, .data, .pinned], laidTests := true, laidLooks := .later }
def TargetWritesCardSaid : Prop := Claim7.holds Tryd.pinned (.plain (OpenSpec.ofChange targetWritesSpec)) targetWritesCard

/-- THE TIED CARD OF 'waypostlaw18.TargetKnown'. -/
def targetKnownCard : Claim7 := { stood := { row := targetKnownRow, standIns := [], harness := (true, "8ed39612269683f8f47b2e029ec8ac1e9d1914ca45e41d275f23316dcb5b4f13"), looks := false }, kinds := [], alts := [], laidByText := true, laidKinds := [.data, .data, .pinned], laidTests := true, laidLooks := .later }
def TargetKnownCardSaid : Prop := Claim7.holds Tryd.pinned (.plain (OpenSpec.ofChange targetKnownSpec)) targetKnownCard

/-- THE TIED CARD OF 'waypostlaw18.TargetBack'. -/
def targetBackCard : Claim7 := { stood := { row := targetBackRow, standIns := [], harness := (true, "8ed39612269683f8f47b2e029ec8ac1e9d1914ca45e41d275f23316dcb5b4f13"), looks := false }, kinds := [], alts := [], laidByText := true, laidKinds := [.data, .data, .pinned], laidTests := true, laidLooks := .later }
def TargetBackCardSaid : Prop := Claim7.holds Tryd.pinned (.plain (OpenSpec.ofChange targetBackSpec)) targetBackCard

/-- THE TIED CARD OF 'waypostlaw18.TargetPaths'. -/
def targetPathsCard : Claim7 := { stood := { row := targetPathsRow, standIns := [], harness := (true, "8ed39612269683f8f47b2e029ec8ac1e9d1914ca45e41d275f23316dcb5b4f13"), looks := false }, kinds := [], alts := [], laidByText := true, laidKinds := [.data, .data, .pinned], laidTests := true, laidLooks := .later }
def TargetPathsCardSaid : Prop := Claim7.holds Tryd.pinned (.plain (OpenSpec.ofChange targetPathsSpec)) targetPathsCard

/-- THE SECOND FORM's CARD OF 'waypostlaw18.TargetReads'. -/
def targetReadsUptoCard : Claim7 := { stood := { row := targetReadsUptoRow, standIns := [], harness := (true, "8ed39612269683f8f47b2e029ec8ac1e9d1914ca45e41d275f23316dcb5b4f13"), looks := false }, kinds := [], alts := [], laidByText := true, laidKinds := [.data, .data, .pinned], laidTests := true, laidLooks := .later }
def TargetReadsUptoCardSaid : Prop := Claim7.holds Tryd.pinned (.plain (OpenSpec.upto targetReadsSpec)) targetReadsUptoCard

/-- THE SECOND FORM's CARD OF 'waypostlaw18.TargetWrites'. -/
def targetWritesUptoCard : Claim7 := { stood := { row := targetWritesUptoRow, standIns := [], harness := (true, "8ed39612269683f8f47b2e029ec8ac1e9d1914ca45e41d275f23316dcb5b4f13"), looks := false }, kinds := [], alts := [], laidByText := true, laidKinds := [.data, .data, .pinned], laidTests := true, laidLooks := .later }
def TargetWritesUptoCardSaid : Prop := Claim7.holds Tryd.pinned (.plain (OpenSpec.upto targetWritesSpec)) targetWritesUptoCard

/-- THE SECOND FORM's CARD OF 'waypostlaw18.TargetKnown'. -/
def targetKnownUptoCard : Claim7 := { stood := { row := targetKnownUptoRow, standIns := [], harness := (true, "8ed39612269683f8f47b2e029ec8ac1e9d1914ca45e41d275f23316dcb5b4f13"), looks := false }, kinds := [], alts := [], laidByText := true, laidKinds := [.data, .data, .pinned], laidTests := true, laidLooks := .later }
def TargetKnownUptoCardSaid : Prop := Claim7.holds Tryd.pinned (.plain (OpenSpec.upto targetKnownSpec)) targetKnownUptoCard

/-- THE SECOND FORM's CARD OF 'waypostlaw18.TargetBack'. -/
def targetBackUptoCard : Claim7 := { stood := { row := targetBackUptoRow, standIns := [], harness := (true, "8ed39612269683f8f47b2e029ec8ac1e9d1914ca45e41d275f23316dcb5b4f13"), looks := false }, kinds := [], alts := [], laidByText := true, laidKinds := [.data, .data, .pinned], laidTests := true, laidLooks := .later }
def TargetBackUptoCardSaid : Prop := Claim7.holds Tryd.pinned (.plain (OpenSpec.upto targetBackSpec)) targetBackUptoCard

/-- THE SECOND FORM's CARD OF 'waypostlaw18.TargetPaths'. -/
def targetPathsUptoCard : Claim7 := { stood := { row := targetPathsUptoRow, standIns := [], harness := (true, "8ed39612269683f8f47b2e029ec8ac1e9d1914ca45e41d275f23316dcb5b4f13"), looks := false }, kinds := [], alts := [], laidByText := true, laidKinds := [.data, .data, .pinned], laidTests := true, laidLooks := .later }
def TargetPathsUptoCardSaid : Prop := Claim7.holds Tryd.pinned (.plain (OpenSpec.upto targetPathsSpec)) targetPathsUptoCard
end Rows
end Go.Proofs.YtjinedeelkdgiaaDoor
