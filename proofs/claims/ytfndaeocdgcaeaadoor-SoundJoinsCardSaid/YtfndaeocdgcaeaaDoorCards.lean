/-
  DERIVED. GIVEN WITH THE SEED: THE CARDS: each row of YtfndaeocdgcaeaaDoorRows.lean that lists a variable, with what it lists TIED to the program's text (the seventh form; the later family's looks); each row that meets fmt, with fmt's text TOLD by the authors' own Lean function (tested against real Go, not proved from fmt's source: count such statements apart). THE CARD IS WHAT COUNTS. Prove the row's statement (the work); the ties are given (YtfndaeocdgcaeaaDoorTie.lean); close each card by the builder's one call (the guide's Derived/Test/ToyasCard.lean, 'card_holds'). Laid BY PROGRAM, IN A SANDBOX (cutbox-door.mjs). By AI agents, Wed Nov 11 2026. No macro, syntax, notation, axiom, sorry.
-/
import Derived.Test.YtfndaeocdgcaeaaDoorRows
import GoSem.ClaimSeven
namespace Go.Proofs.YtfndaeocdgcaeaaDoor
namespace Rows

/-- THE TIED CARD OF 'joinerylaw12.SoundTells'. -/
def soundTellsCard : Claim7 := { stood := { row := soundTellsRow, standIns := [], harness := (true, "21b3b33de48dc53f929e58682b6a43adaa7d3bfc32bd604ff9850b001be61065"), looks := false }, kinds := [], alts := [], laidByText := true, laidKinds := [.data], laidTests := true, laidLooks := .later }
def SoundTellsCardSaid : Prop := Claim7.holds Tryd.pinned (.plain (OpenSpec.ofChange soundTellsSpec)) soundTellsCard

/-- THE TIED CARD OF 'joinerylaw12.SoundRises'. -/
def soundRisesCard : Claim7 := { stood := { row := soundRisesRow, standIns := [], harness := (true, "21b3b33de48dc53f929e58682b6a43adaa7d3bfc32bd604ff9850b001be61065"), looks := false }, kinds := [], alts := [], laidByText := true, laidKinds := [.data], laidTests := true, laidLooks := .later }
def SoundRisesCardSaid : Prop := Claim7.holds Tryd.pinned (.plain (OpenSpec.ofChange soundRisesSpec)) soundRisesCard

/-- THE TIED CARD OF 'joinerylaw12.SoundJoins'. -/
def soundJoinsCard : Claim7 := { stood := { row := soundJoinsRow, standIns := [], harness := (true, "21b3b33de48dc53f929e58682b6a43adaa7d3bfc32bd604ff9850b001be61065"), looks := false }, kinds := [], alts := [], laidByText := true, laidKinds := [.data], laidTests := true, laidLooks := .later }
def SoundJoinsCardSaid : Prop := Claim7.holds Tryd.pinned (.plain (OpenSpec.ofChange soundJoinsSpec)) soundJoinsCard

/-- THE SECOND FORM's CARD OF 'joinerylaw12.SoundTells'. -/
def soundTellsUptoCard : Claim7 := { stood := { row := soundTellsUptoRow, standIns := [], harness := (true, "21b3b33de48dc53f929e58682b6a43adaa7d3bfc32bd604ff9850b001be61065"), looks := false }, kinds := [], alts := [], laidByText := true, laidKinds := [.data], laidTests := true, laidLooks := .later }
def SoundTellsUptoCardSaid : Prop := Claim7.holds Tryd.pinned (.plain (OpenSpec.upto soundTellsSpec)) soundTellsUptoCard

/-- THE SECOND FORM's CARD OF 'joinerylaw12.SoundRises'. -/
def soundRisesUptoCard : Claim7 := { stood := { row := soundRisesUptoRow, standIns := [], harness := (true, "21b3b33de48dc53f929e58682b6a43adaa7d3bfc32bd604ff9850b001be61065"), looks := false }, kinds := [], alts := [], laidByText := true, laidKinds := [.data], laidTests := true, laidLooks := .later }
def SoundRisesUptoCardSaid : Prop := Claim7.holds Tryd.pinned (.plain (OpenSpec.upto soundRisesSpec)) soundRisesUptoCard

/-- THE SECOND FORM's CARD OF 'joinerylaw12.SoundJoins'. -/
def soundJoinsUptoCard : Claim7 := { stood := { row := soundJoinsUptoRow, standIns := [], harness := (true, "21b3b33de48dc53f929e58682b6a43adaa7d3bfc32bd604ff9850b001be61065"), looks := false }, kinds := [], alts := [], laidByText := true, laidKinds := [.data], laidTests := true, laidLooks := .later }
def SoundJoinsUptoCardSaid : Prop := Claim7.holds Tryd.pinned (.plain (OpenSpec.upto soundJoinsSpec)) soundJoinsUptoCard
end Rows
end Go.Proofs.YtfndaeocdgcaeaaDoor
