/-
  DERIVED. GIVEN WITH THE SEED: THE CARDS: each row of YtmjlabnjgdiakaaDoorRows.lean that lists a variable, with what it lists TIED to the program's text (the seventh form; the later family's looks); each row that meets fmt, with fmt's text TOLD by the authors' own Lean function (tested against real Go, not proved from fmt's source: count such statements apart). THE CARD IS WHAT COUNTS. Prove the row's statement (the work); the ties are given (YtmjlabnjgdiakaaDoorTie.lean); close each card by the builder's one call (the guide's Derived/Test/ToyasCard.lean, 'card_holds'). Laid BY PROGRAM, IN A SANDBOX (cutbox-door.mjs). By AI agents, Wed Nov 11 2026. No macro, syntax, notation, axiom, sorry.
-/
import Derived.Test.YtmjlabnjgdiakaaDoorRows
import GoSem.ClaimSeven
namespace Go.Proofs.YtmjlabnjgdiakaaDoor
namespace Rows

/-- THE TIED CARD OF 'joinerylaw08.DrawTells'. -/
def drawTellsCard : Claim7 := { stood := { row := drawTellsRow, standIns := [], harness := (true, "350f9047173216ce1155d93dcaa56a80cad17d59b7c47adaed9ac7bcd575ca02"), looks := false }, kinds := [], alts := [], laidByText := true, laidKinds := [.data], laidTests := true, laidLooks := .later }
def DrawTellsCardSaid : Prop := Claim7.holds Tryd.pinned (.plain (OpenSpec.ofChange drawTellsSpec)) drawTellsCard

/-- THE TIED CARD OF 'joinerylaw08.DrawOnce'. -/
def drawOnceCard : Claim7 := { stood := { row := drawOnceRow, standIns := [], harness := (true, "350f9047173216ce1155d93dcaa56a80cad17d59b7c47adaed9ac7bcd575ca02"), looks := false }, kinds := [], alts := [], laidByText := true, laidKinds := [.data], laidTests := true, laidLooks := .later }
def DrawOnceCardSaid : Prop := Claim7.holds Tryd.pinned (.plain (OpenSpec.ofChange drawOnceSpec)) drawOnceCard

/-- THE SECOND FORM's CARD OF 'joinerylaw08.DrawTells'. -/
def drawTellsUptoCard : Claim7 := { stood := { row := drawTellsUptoRow, standIns := [], harness := (true, "350f9047173216ce1155d93dcaa56a80cad17d59b7c47adaed9ac7bcd575ca02"), looks := false }, kinds := [], alts := [], laidByText := true, laidKinds := [.data], laidTests := true, laidLooks := .later }
def DrawTellsUptoCardSaid : Prop := Claim7.holds Tryd.pinned (.plain (OpenSpec.upto drawTellsSpec)) drawTellsUptoCard

/-- THE SECOND FORM's CARD OF 'joinerylaw08.DrawOnce'. -/
def drawOnceUptoCard : Claim7 := { stood := { row := drawOnceUptoRow, standIns := [], harness := (true, "350f9047173216ce1155d93dcaa56a80cad17d59b7c47adaed9ac7bcd575ca02"), looks := false }, kinds := [], alts := [], laidByText := true, laidKinds := [.data], laidTests := true, laidLooks := .later }
def DrawOnceUptoCardSaid : Prop := Claim7.holds Tryd.pinned (.plain (OpenSpec.upto drawOnceSpec)) drawOnceUptoCard
end Rows
end Go.Proofs.YtmjlabnjgdiakaaDoor
