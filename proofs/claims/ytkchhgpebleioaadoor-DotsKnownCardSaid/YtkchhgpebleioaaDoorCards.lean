/-
  DERIVED. GIVEN WITH THE SEED: THE CARDS: each row of YtkchhgpebleioaaDoorRows.lean that lists a variable, with what it lists TIED to the program's text (the seventh form; the later family's looks); each row that meets fmt, with fmt's text TOLD by the authors' own Lean function (tested against real Go, not proved from fmt's source: count such statements apart). THE CARD IS WHAT COUNTS. Prove the row's statement (the work); the ties are given (YtkchhgpebleioaaDoorTie.lean); close each card by the builder's one call (the guide's Derived/Test/ToyasCard.lean, 'card_holds'). Laid BY PROGRAM, IN A SANDBOX (cutbox-door.mjs). By AI agents, Wed Nov 11 2026. No macro, syntax, notation, axiom, sorry.
-/
import Derived.Test.YtkchhgpebleioaaDoorRows
import GoSem.ClaimSeven
namespace Go.Proofs.YtkchhgpebleioaaDoor
namespace Rows

/-- THE TIED CARD OF 'waypostlaw14.DotsKnown'. -/
def dotsKnownCard : Claim7 := { stood := { row := dotsKnownRow, standIns := [], harness := (true, "419fe93b251a9c4700d163ddd00724416a716b2224180fe6d232528474732dfe"), looks := false }, kinds := [], alts := [], laidByText := true, laidKinds := [.data, .pinned], laidTests := true, laidLooks := .later }
def DotsKnownCardSaid : Prop := Claim7.holds Tryd.pinned (.plain (OpenSpec.ofChange dotsKnownSpec)) dotsKnownCard

/-- THE TIED CARD OF 'waypostlaw14.DotsPaths'. -/
def dotsPathsCard : Claim7 := { stood := { row := dotsPathsRow, standIns := [], harness := (true, "419fe93b251a9c4700d163ddd00724416a716b2224180fe6d232528474732dfe"), looks := false }, kinds := [], alts := [], laidByText := true, laidKinds := [.data, .pinned], laidTests := true, laidLooks := .later }
def DotsPathsCardSaid : Prop := Claim7.holds Tryd.pinned (.plain (OpenSpec.ofChange dotsPathsSpec)) dotsPathsCard

/-- THE TIED CARD OF 'waypostlaw14.DotsTwo'. -/
def dotsTwoCard : Claim7 := { stood := { row := dotsTwoRow, standIns := [], harness := (true, "419fe93b251a9c4700d163ddd00724416a716b2224180fe6d232528474732dfe"), looks := false }, kinds := [], alts := [], laidByText := true, laidKinds := [.data, .pinned], laidTests := true, laidLooks := .later }
def DotsTwoCardSaid : Prop := Claim7.holds Tryd.pinned (.plain (OpenSpec.ofChange dotsTwoSpec)) dotsTwoCard

/-- THE TIED CARD OF 'waypostlaw14.DotsMakes'. -/
def dotsMakesCard : Claim7 := { stood := { row := dotsMakesRow, standIns := [], harness := (true, "419fe93b251a9c4700d163ddd00724416a716b2224180fe6d232528474732dfe"), looks := false }, kinds := [], alts := [], laidByText := true, laidKinds := [.data, .pinned], laidTests := true, laidLooks := .later }
def DotsMakesCardSaid : Prop := Claim7.holds Tryd.pinned (.plain (OpenSpec.ofChange dotsMakesSpec)) dotsMakesCard

/-- THE TIED CARD OF 'waypostlaw14.DotsCleans'. -/
def dotsCleansCard : Claim7 := { stood := { row := dotsCleansRow, standIns := [], harness := (true, "419fe93b251a9c4700d163ddd00724416a716b2224180fe6d232528474732dfe"), looks := false }, kinds := [], alts := [], laidByText := true, laidKinds := [.data, .pinned], laidTests := true, laidLooks := .later }
def DotsCleansCardSaid : Prop := Claim7.holds Tryd.pinned (.plain (OpenSpec.ofChange dotsCleansSpec)) dotsCleansCard

/-- THE TIED CARD OF 'waypostlaw14.DotsBack'. -/
def dotsBackCard : Claim7 := { stood := { row := dotsBackRow, standIns := [], harness := (true, "419fe93b251a9c4700d163ddd00724416a716b2224180fe6d232528474732dfe"), looks := false }, kinds := [], alts := [], laidByText := true, laidKinds := [.data, .pinned], laidTests := true, laidLooks := .later }
def DotsBackCardSaid : Prop := Claim7.holds Tryd.pinned (.plain (OpenSpec.ofChange dotsBackSpec)) dotsBackCard

/-- THE TIED CARD OF 'waypostlaw14.DotsCommon'. -/
def dotsCommonCard : Claim7 := { stood := { row := dotsCommonRow, standIns := [], harness := (true, "419fe93b251a9c4700d163ddd00724416a716b2224180fe6d232528474732dfe"), looks := false }, kinds := [], alts := [], laidByText := true, laidKinds := [.data, .pinned], laidTests := true, laidLooks := .later }
def DotsCommonCardSaid : Prop := Claim7.holds Tryd.pinned (.plain (OpenSpec.ofChange dotsCommonSpec)) dotsCommonCard

/-- THE SECOND FORM's CARD OF 'waypostlaw14.DotsKnown'. -/
def dotsKnownUptoCard : Claim7 := { stood := { row := dotsKnownUptoRow, standIns := [], harness := (true, "419fe93b251a9c4700d163ddd00724416a716b2224180fe6d232528474732dfe"), looks := false }, kinds := [], alts := [], laidByText := true, laidKinds := [.data, .pinned], laidTests := true, laidLooks := .later }
def DotsKnownUptoCardSaid : Prop := Claim7.holds Tryd.pinned (.plain (OpenSpec.upto dotsKnownSpec)) dotsKnownUptoCard

/-- THE SECOND FORM's CARD OF 'waypostlaw14.DotsPaths'. -/
def dotsPathsUptoCard : Claim7 := { stood := { row := dotsPathsUptoRow, standIns := [], harness := (true, "419fe93b251a9c4700d163ddd00724416a716b2224180fe6d232528474732dfe"), looks := false }, kinds := [], alts := [], laidByText := true, laidKinds := [.data, .pinned], laidTests := true, laidLooks := .later }
def DotsPathsUptoCardSaid : Prop := Claim7.holds Tryd.pinned (.plain (OpenSpec.upto dotsPathsSpec)) dotsPathsUptoCard

/-- THE SECOND FORM's CARD OF 'waypostlaw14.DotsTwo'. -/
def dotsTwoUptoCard : Claim7 := { stood := { row := dotsTwoUptoRow, standIns := [], harness := (true, "419fe93b251a9c4700d163ddd00724416a716b2224180fe6d232528474732dfe"), looks := false }, kinds := [], alts := [], laidByText := true, laidKinds := [.data, .pinned], laidTests := true, laidLooks := .later }
def DotsTwoUptoCardSaid : Prop := Claim7.holds Tryd.pinned (.plain (OpenSpec.upto dotsTwoSpec)) dotsTwoUptoCard

/-- THE SECOND FORM's CARD OF 'waypostlaw14.DotsMakes'. -/
def dotsMakesUptoCard : Claim7 := { stood := { row := dotsMakesUptoRow, standIns := [], harness := (true, "419fe93b251a9c4700d163ddd00724416a716b2224180fe6d232528474732dfe"), looks := false }, kinds := [], alts := [], laidByText := true, laidKinds := [.data, .pinned], laidTests := true, laidLooks := .later }
def DotsMakesUptoCardSaid : Prop := Claim7.holds Tryd.pinned (.plain (OpenSpec.upto dotsMakesSpec)) dotsMakesUptoCard

/-- THE SECOND FORM's CARD OF 'waypostlaw14.DotsCleans'. -/
def dotsCleansUptoCard : Claim7 := { stood := { row := dotsCleansUptoRow, standIns := [], harness := (true, "419fe93b251a9c4700d163ddd00724416a716b2224180fe6d232528474732dfe"), looks := false }, kinds := [], alts := [], laidByText := true, laidKinds := [.data, .pinned], laidTests := true, laidLooks := .later }
def DotsCleansUptoCardSaid : Prop := Claim7.holds Tryd.pinned (.plain (OpenSpec.upto dotsCleansSpec)) dotsCleansUptoCard

/-- THE SECOND FORM's CARD OF 'waypostlaw14.DotsBack'. -/
def dotsBackUptoCard : Claim7 := { stood := { row := dotsBackUptoRow, standIns := [], harness := (true, "419fe93b251a9c4700d163ddd00724416a716b2224180fe6d232528474732dfe"), looks := false }, kinds := [], alts := [], laidByText := true, laidKinds := [.data, .pinned], laidTests := true, laidLooks := .later }
def DotsBackUptoCardSaid : Prop := Claim7.holds Tryd.pinned (.plain (OpenSpec.upto dotsBackSpec)) dotsBackUptoCard

/-- THE SECOND FORM's CARD OF 'waypostlaw14.DotsCommon'. -/
def dotsCommonUptoCard : Claim7 := { stood := { row := dotsCommonUptoRow, standIns := [], harness := (true, "419fe93b251a9c4700d163ddd00724416a716b2224180fe6d232528474732dfe"), looks := false }, kinds := [], alts := [], laidByText := true, laidKinds := [.data, .pinned], laidTests := true, laidLooks := .later }
def DotsCommonUptoCardSaid : Prop := Claim7.holds Tryd.pinned (.plain (OpenSpec.upto dotsCommonSpec)) dotsCommonUptoCard
end Rows
end Go.Proofs.YtkchhgpebleioaaDoor
