/-
  DERIVED. GIVEN WITH THE SEED: THE CARDS: each row of YtmpinbaeiknjaaaDoorRows.lean that lists a variable, with what it lists TIED to the program's text (the seventh form; the later family's looks); each row that meets fmt, with fmt's text TOLD by the authors' own Lean function (tested against real Go, not proved from fmt's source: count such statements apart). THE CARD IS WHAT COUNTS. Prove the row's statement (the work); the ties are given (YtmpinbaeiknjaaaDoorTie.lean); close each card by the builder's one call (the guide's Derived/Test/ToyasCard.lean, 'card_holds'). Laid BY PROGRAM, IN A SANDBOX (cutbox-door.mjs). By AI agents, Wed Nov 11 2026. No macro, syntax, notation, axiom, sorry.
-/
import Derived.Test.YtmpinbaeiknjaaaDoorRows
import GoSem.ClaimSeven
namespace Go.Proofs.YtmpinbaeiknjaaaDoor
namespace Rows

/-- THE TIED CARD OF 'joinerylaw01.MixTells'. -/
def mixTellsCard : Claim7 := { stood := { row := mixTellsRow, standIns := [], harness := (true, "6b6aebbeee13ab5a21f93c0b918662eef89f8864bf509921f70bc31e4a357913"), looks := false }, kinds := [], alts := [], laidByText := true, laidKinds := [.data], laidTests := true, laidLooks := .later }
def MixTellsCardSaid : Prop := Claim7.holds Tryd.pinned (.plain (OpenSpec.ofChange mixTellsSpec)) mixTellsCard

/-- THE TIED CARD OF 'joinerylaw01.MixBack'. -/
def mixBackCard : Claim7 := { stood := { row := mixBackRow, standIns := [], harness := (true, "6b6aebbeee13ab5a21f93c0b918662eef89f8864bf509921f70bc31e4a357913"), looks := false }, kinds := [], alts := [], laidByText := true, laidKinds := [.data], laidTests := true, laidLooks := .later }
def MixBackCardSaid : Prop := Claim7.holds Tryd.pinned (.plain (OpenSpec.ofChange mixBackSpec)) mixBackCard

/-- THE TIED CARD OF 'joinerylaw01.MixTurns'. -/
def mixTurnsCard : Claim7 := { stood := { row := mixTurnsRow, standIns := [], harness := (true, "6b6aebbeee13ab5a21f93c0b918662eef89f8864bf509921f70bc31e4a357913"), looks := false }, kinds := [], alts := [], laidByText := true, laidKinds := [.data], laidTests := true, laidLooks := .later }
def MixTurnsCardSaid : Prop := Claim7.holds Tryd.pinned (.plain (OpenSpec.ofChange mixTurnsSpec)) mixTurnsCard

/-- THE SECOND FORM's CARD OF 'joinerylaw01.MixTells'. -/
def mixTellsUptoCard : Claim7 := { stood := { row := mixTellsUptoRow, standIns := [], harness := (true, "6b6aebbeee13ab5a21f93c0b918662eef89f8864bf509921f70bc31e4a357913"), looks := false }, kinds := [], alts := [], laidByText := true, laidKinds := [.data], laidTests := true, laidLooks := .later }
def MixTellsUptoCardSaid : Prop := Claim7.holds Tryd.pinned (.plain (OpenSpec.upto mixTellsSpec)) mixTellsUptoCard

/-- THE SECOND FORM's CARD OF 'joinerylaw01.MixBack'. -/
def mixBackUptoCard : Claim7 := { stood := { row := mixBackUptoRow, standIns := [], harness := (true, "6b6aebbeee13ab5a21f93c0b918662eef89f8864bf509921f70bc31e4a357913"), looks := false }, kinds := [], alts := [], laidByText := true, laidKinds := [.data], laidTests := true, laidLooks := .later }
def MixBackUptoCardSaid : Prop := Claim7.holds Tryd.pinned (.plain (OpenSpec.upto mixBackSpec)) mixBackUptoCard

/-- THE SECOND FORM's CARD OF 'joinerylaw01.MixTurns'. -/
def mixTurnsUptoCard : Claim7 := { stood := { row := mixTurnsUptoRow, standIns := [], harness := (true, "6b6aebbeee13ab5a21f93c0b918662eef89f8864bf509921f70bc31e4a357913"), looks := false }, kinds := [], alts := [], laidByText := true, laidKinds := [.data], laidTests := true, laidLooks := .later }
def MixTurnsUptoCardSaid : Prop := Claim7.holds Tryd.pinned (.plain (OpenSpec.upto mixTurnsSpec)) mixTurnsUptoCard
end Rows
end Go.Proofs.YtmpinbaeiknjaaaDoor
