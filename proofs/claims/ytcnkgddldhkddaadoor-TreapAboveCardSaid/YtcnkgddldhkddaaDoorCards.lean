/-
  DERIVED. GIVEN WITH THE SEED: THE CARDS: each row of YtcnkgddldhkddaaDoorRows.lean that lists a variable, with what it lists TIED to the program's text (the seventh form; the later family's looks); each row that meets fmt, with fmt's text TOLD by the authors' own Lean function (tested against real Go, not proved from fmt's source: count such statements apart). THE CARD IS WHAT COUNTS. Prove the row's statement (the work); the ties are given (YtcnkgddldhkddaaDoorTie.lean); close each card by the builder's one call (the guide's Derived/Test/ToyasCard.lean, 'card_holds'). Laid BY PROGRAM, IN A SANDBOX (cutbox-door.mjs). By AI agents, Wed Nov 11 2026. No macro, syntax, notation, axiom, sorry.
-/
import Derived.Test.YtcnkgddldhkddaaDoorRows
import GoSem.ClaimSeven
namespace Go.Proofs.YtcnkgddldhkddaaDoor
namespace Rows

/-- THE TIED CARD OF 'joinerylaw20.TreapTells'. -/
def treapTellsCard : Claim7 := { stood := { row := treapTellsRow, standIns := [], harness := (true, "b13239767eb53147cafd32373f8a78957a23c9bb65937e494083378cd79d3946"), looks := false }, kinds := [], alts := [], laidByText := true, laidKinds := [.data], laidTests := true, laidLooks := .later }
def TreapTellsCardSaid : Prop := Claim7.holds Tryd.pinned (.plain (OpenSpec.ofChange treapTellsSpec)) treapTellsCard

/-- THE TIED CARD OF 'joinerylaw20.TreapAbove'. -/
def treapAboveCard : Claim7 := { stood := { row := treapAboveRow, standIns := [], harness := (true, "b13239767eb53147cafd32373f8a78957a23c9bb65937e494083378cd79d3946"), looks := false }, kinds := [], alts := [], laidByText := true, laidKinds := [.data], laidTests := true, laidLooks := .later }
def TreapAboveCardSaid : Prop := Claim7.holds Tryd.pinned (.plain (OpenSpec.ofChange treapAboveSpec)) treapAboveCard

/-- THE TIED CARD OF 'joinerylaw20.TreapMakes'. -/
def treapMakesCard : Claim7 := { stood := { row := treapMakesRow, standIns := [], harness := (true, "b13239767eb53147cafd32373f8a78957a23c9bb65937e494083378cd79d3946"), looks := false }, kinds := [], alts := [], laidByText := true, laidKinds := [.data], laidTests := true, laidLooks := .later }
def TreapMakesCardSaid : Prop := Claim7.holds Tryd.pinned (.plain (OpenSpec.ofChange treapMakesSpec)) treapMakesCard

/-- THE TIED CARD OF 'joinerylaw20.TreapOne'. -/
def treapOneCard : Claim7 := { stood := { row := treapOneRow, standIns := [], harness := (true, "b13239767eb53147cafd32373f8a78957a23c9bb65937e494083378cd79d3946"), looks := false }, kinds := [], alts := [], laidByText := true, laidKinds := [.data], laidTests := true, laidLooks := .later }
def TreapOneCardSaid : Prop := Claim7.holds Tryd.pinned (.plain (OpenSpec.ofChange treapOneSpec)) treapOneCard

/-- THE SECOND FORM's CARD OF 'joinerylaw20.TreapTells'. -/
def treapTellsUptoCard : Claim7 := { stood := { row := treapTellsUptoRow, standIns := [], harness := (true, "b13239767eb53147cafd32373f8a78957a23c9bb65937e494083378cd79d3946"), looks := false }, kinds := [], alts := [], laidByText := true, laidKinds := [.data], laidTests := true, laidLooks := .later }
def TreapTellsUptoCardSaid : Prop := Claim7.holds Tryd.pinned (.plain (OpenSpec.upto treapTellsSpec)) treapTellsUptoCard

/-- THE SECOND FORM's CARD OF 'joinerylaw20.TreapAbove'. -/
def treapAboveUptoCard : Claim7 := { stood := { row := treapAboveUptoRow, standIns := [], harness := (true, "b13239767eb53147cafd32373f8a78957a23c9bb65937e494083378cd79d3946"), looks := false }, kinds := [], alts := [], laidByText := true, laidKinds := [.data], laidTests := true, laidLooks := .later }
def TreapAboveUptoCardSaid : Prop := Claim7.holds Tryd.pinned (.plain (OpenSpec.upto treapAboveSpec)) treapAboveUptoCard

/-- THE SECOND FORM's CARD OF 'joinerylaw20.TreapMakes'. -/
def treapMakesUptoCard : Claim7 := { stood := { row := treapMakesUptoRow, standIns := [], harness := (true, "b13239767eb53147cafd32373f8a78957a23c9bb65937e494083378cd79d3946"), looks := false }, kinds := [], alts := [], laidByText := true, laidKinds := [.data], laidTests := true, laidLooks := .later }
def TreapMakesUptoCardSaid : Prop := Claim7.holds Tryd.pinned (.plain (OpenSpec.upto treapMakesSpec)) treapMakesUptoCard

/-- THE SECOND FORM's CARD OF 'joinerylaw20.TreapOne'. -/
def treapOneUptoCard : Claim7 := { stood := { row := treapOneUptoRow, standIns := [], harness := (true, "b13239767eb53147cafd32373f8a78957a23c9bb65937e494083378cd79d3946"), looks := false }, kinds := [], alts := [], laidByText := true, laidKinds := [.data], laidTests := true, laidLooks := .later }
def TreapOneUptoCardSaid : Prop := Claim7.holds Tryd.pinned (.plain (OpenSpec.upto treapOneSpec)) treapOneUptoCard
end Rows
end Go.Proofs.YtcnkgddldhkddaaDoor
