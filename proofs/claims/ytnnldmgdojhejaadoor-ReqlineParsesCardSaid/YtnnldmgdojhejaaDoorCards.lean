/-
  DERIVED. GIVEN WITH THE SEED: THE CARDS: each row of YtnnldmgdojhejaaDoorRows.lean that lists a variable, with what it lists TIED to the program's text (the seventh form; the later family's looks); each row that meets fmt, with fmt's text TOLD by the authors' own Lean function (tested against real Go, not proved from fmt's source: count such statements apart). THE CARD IS WHAT COUNTS. Prove the row's statement (the work); the ties are given (YtnnldmgdojhejaaDoorTie.lean); close each card by the builder's one call (the guide's Derived/Test/ToyasCard.lean, 'card_holds'). Laid BY PROGRAM, IN A SANDBOX (cutbox-door.mjs). By AI agents, Wed Nov 11 2026. No macro, syntax, notation, axiom, sorry.
-/
import Derived.Test.YtnnldmgdojhejaaDoorRows
import GoSem.ClaimSeven
namespace Go.Proofs.YtnnldmgdojhejaaDoor
namespace Rows

/-- THE TIED CARD OF 'waypostlaw08.ReqlineParts'. -/
def reqlinePartsCard : Claim7 := { stood := { row := reqlinePartsRow, standIns := [], harness := (true, "da05d535b5bdd02664ddd6cdd2191c3b3c2d24c84487340b768dce976362f759"), looks := false }, kinds := [], alts := [], laidByText := true, laidKinds := [.data, .pinned], laidTests := true, laidLooks := .later }
def ReqlinePartsCardSaid : Prop := Claim7.holds Tryd.pinned (.plain (OpenSpec.ofChange reqlinePartsSpec)) reqlinePartsCard

/-- THE TIED CARD OF 'waypostlaw08.ReqlineParses'. -/
def reqlineParsesCard : Claim7 := { stood := { row := reqlineParsesRow, standIns := [], harness := (true, "da05d535b5bdd02664ddd6cdd2191c3b3c2d24c84487340b768dce976362f759"), looks := false }, kinds := [], alts := [], laidByText := true, laidKinds := [.data, .pinned], laidTests := true, laidLooks := .later }
def ReqlineParsesCardSaid : Prop := Claim7.holds Tryd.pinned (.plain (OpenSpec.ofChange reqlineParsesSpec)) reqlineParsesCard

/-- THE TIED CARD OF 'waypostlaw08.ReqlineLong'. -/
def reqlineLongCard : Claim7 := { stood := { row := reqlineLongRow, standIns := [], harness := (true, "da05d535b5bdd02664ddd6cdd2191c3b3c2d24c84487340b768dce976362f759"), looks := false }, kinds := [], alts := [], laidByText := true, laidKinds := [.data, .pinned], laidTests := true, laidLooks := .later }
def ReqlineLongCardSaid : Prop := Claim7.holds Tryd.pinned (.plain (OpenSpec.ofChange reqlineLongSpec)) reqlineLongCard

/-- THE TIED CARD OF 'waypostlaw08.ReqlinePlaces'. -/
def reqlinePlacesCard : Claim7 := { stood := { row := reqlinePlacesRow, standIns := [], harness := (true, "da05d535b5bdd02664ddd6cdd2191c3b3c2d24c84487340b768dce976362f759"), looks := false }, kinds := [], alts := [], laidByText := true, laidKinds := [.data, .pinned], laidTests := true, laidLooks := .later }
def ReqlinePlacesCardSaid : Prop := Claim7.holds Tryd.pinned (.plain (OpenSpec.ofChange reqlinePlacesSpec)) reqlinePlacesCard

/-- THE SECOND FORM's CARD OF 'waypostlaw08.ReqlineParts'. -/
def reqlinePartsUptoCard : Claim7 := { stood := { row := reqlinePartsUptoRow, standIns := [], harness := (true, "da05d535b5bdd02664ddd6cdd2191c3b3c2d24c84487340b768dce976362f759"), looks := false }, kinds := [], alts := [], laidByText := true, laidKinds := [.data, .pinned], laidTests := true, laidLooks := .later }
def ReqlinePartsUptoCardSaid : Prop := Claim7.holds Tryd.pinned (.plain (OpenSpec.upto reqlinePartsSpec)) reqlinePartsUptoCard

/-- THE SECOND FORM's CARD OF 'waypostlaw08.ReqlineParses'. -/
def reqlineParsesUptoCard : Claim7 := { stood := { row := reqlineParsesUptoRow, standIns := [], harness := (true, "da05d535b5bdd02664ddd6cdd2191c3b3c2d24c84487340b768dce976362f759"), looks := false }, kinds := [], alts := [], laidByText := true, laidKinds := [.data, .pinned], laidTests := true, laidLooks := .later }
def ReqlineParsesUptoCardSaid : Prop := Claim7.holds Tryd.pinned (.plain (OpenSpec.upto reqlineParsesSpec)) reqlineParsesUptoCard

/-- THE SECOND FORM's CARD OF 'waypostlaw08.ReqlineLong'. -/
def reqlineLongUptoCard : Claim7 := { stood := { row := reqlineLongUptoRow, standIns := [], harness := (true, "da05d535b5bdd02664ddd6cdd2191c3b3c2d24c84487340b768dce976362f759"), looks := false }, kinds := [], alts := [], laidByText := true, laidKinds := [.data, .pinned], laidTests := true, laidLooks := .later }
def ReqlineLongUptoCardSaid : Prop := Claim7.holds Tryd.pinned (.plain (OpenSpec.upto reqlineLongSpec)) reqlineLongUptoCard

/-- THE SECOND FORM's CARD OF 'waypostlaw08.ReqlinePlaces'. -/
def reqlinePlacesUptoCard : Claim7 := { stood := { row := reqlinePlacesUptoRow, standIns := [], harness := (true, "da05d535b5bdd02664ddd6cdd2191c3b3c2d24c84487340b768dce976362f759"), looks := false }, kinds := [], alts := [], laidByText := true, laidKinds := [.data, .pinned], laidTests := true, laidLooks := .later }
def ReqlinePlacesUptoCardSaid : Prop := Claim7.holds Tryd.pinned (.plain (OpenSpec.upto reqlinePlacesSpec)) reqlinePlacesUptoCard
end Rows
end Go.Proofs.YtnnldmgdojhejaaDoor
