/-
  DERIVED. GIVEN WITH THE SEED: THE CARDS: each row of YtmndfncogkjjpaaDoorRows.lean that lists a variable, with what it lists TIED to the program's text (the seventh form; the later family's looks); each row that meets fmt, with fmt's text TOLD by the authors' own Lean function (tested against real Go, not proved from fmt's source: count such statements apart). THE CARD IS WHAT COUNTS. Prove the row's statement (the work); the ties are given (YtmndfncogkjjpaaDoorTie.lean); close each card by the builder's one call (the guide's Derived/Test/ToyasCard.lean, 'card_holds'). Laid BY PROGRAM, IN A SANDBOX (cutbox-door.mjs). By AI agents, Wed Nov 11 2026. No macro, syntax, notation, axiom, sorry.
-/
import Derived.Test.YtmndfncogkjjpaaDoorRows
import GoSem.ClaimSeven
namespace Go.Proofs.YtmndfncogkjjpaaDoor
namespace Rows

/-- THE TIED CARD OF 'joinerylaw07.NatTells'. -/
def natTellsCard : Claim7 := { stood := { row := natTellsRow, standIns := [], harness := (true, "03d450683465415d9b96de45c674dbd4bcc8cc4f1918131a48bea08c33f04c81"), looks := false }, kinds := [], alts := [], laidByText := true, laidKinds := [.data, .data, .data, .data, .pinned], laidTests := true, laidLooks := .later }
def NatTellsCardSaid : Prop := Claim7.holds Tryd.pinned (.plain (OpenSpec.ofChange natTellsSpec)) natTellsCard

/-- THE TIED CARD OF 'joinerylaw07.NatFibs'. -/
def natFibsCard : Claim7 := { stood := { row := natFibsRow, standIns := [], harness := (true, "03d450683465415d9b96de45c674dbd4bcc8cc4f1918131a48bea08c33f04c81"), looks := false }, kinds := [], alts := [], laidByText := true, laidKinds := [.data, .data, .data, .data, .pinned], laidTests := true, laidLooks := .later }
def NatFibsCardSaid : Prop := Claim7.holds Tryd.pinned (.plain (OpenSpec.ofChange natFibsSpec)) natFibsCard

/-- THE TIED CARD OF 'joinerylaw07.NatRing'. -/
def natRingCard : Claim7 := { stood := { row := natRingRow, standIns := [], harness := (true, "03d450683465415d9b96de45c674dbd4bcc8cc4f1918131a48bea08c33f04c81"), looks := false }, kinds := [], alts := [], laidByText := true, laidKinds := [.data, .data, .data, .data, .pinned], laidTests := true, laidLooks := .later }
def NatRingCardSaid : Prop := Claim7.holds Tryd.pinned (.plain (OpenSpec.ofChange natRingSpec)) natRingCard

/-- THE TIED CARD OF 'joinerylaw07.NatPowers'. -/
def natPowersCard : Claim7 := { stood := { row := natPowersRow, standIns := [], harness := (true, "03d450683465415d9b96de45c674dbd4bcc8cc4f1918131a48bea08c33f04c81"), looks := false }, kinds := [], alts := [], laidByText := true, laidKinds := [.data, .data, .data, .data, .pinned], laidTests := true, laidLooks := .later }
def NatPowersCardSaid : Prop := Claim7.holds Tryd.pinned (.plain (OpenSpec.ofChange natPowersSpec)) natPowersCard

/-- THE SECOND FORM's CARD OF 'joinerylaw07.NatTells'. -/
def natTellsUptoCard : Claim7 := { stood := { row := natTellsUptoRow, standIns := [], harness := (true, "03d450683465415d9b96de45c674dbd4bcc8cc4f1918131a48bea08c33f04c81"), looks := false }, kinds := [], alts := [], laidByText := true, laidKinds := [.data, .data, .data, .data, .pinned], laidTests := true, laidLooks := .later }
def NatTellsUptoCardSaid : Prop := Claim7.holds Tryd.pinned (.plain (OpenSpec.upto natTellsSpec)) natTellsUptoCard

/-- THE SECOND FORM's CARD OF 'joinerylaw07.NatFibs'. -/
def natFibsUptoCard : Claim7 := { stood := { row := natFibsUptoRow, standIns := [], harness := (true, "03d450683465415d9b96de45c674dbd4bcc8cc4f1918131a48bea08c33f04c81"), looks := false }, kinds := [], alts := [], laidByText := true, laidKinds := [.data, .data, .data, .data, .pinned], laidTests := true, laidLooks := .later }
def NatFibsUptoCardSaid : Prop := Claim7.holds Tryd.pinned (.plain (OpenSpec.upto natFibsSpec)) natFibsUptoCard

/-- THE SECOND FORM's CARD OF 'joinerylaw07.NatRing'. -/
def natRingUptoCard : Claim7 := { stood := { row := natRingUptoRow, standIns := [], harness := (true, "03d450683465415d9b96de45c674dbd4bcc8cc4f1918131a48bea08c33f04c81"), looks := false }, kinds := [], alts := [], laidByText := true, laidKinds := [.data, .data, .data, .data, .pinned], laidTests := true, laidLooks := .later }
def NatRingUptoCardSaid : Prop := Claim7.holds Tryd.pinned (.plain (OpenSpec.upto natRingSpec)) natRingUptoCard

/-- THE SECOND FORM's CARD OF 'joinerylaw07.NatPowers'. -/
def natPowersUptoCard : Claim7 := { stood := { row := natPowersUptoRow, standIns := [], harness := (true, "03d450683465415d9b96de45c674dbd4bcc8cc4f1918131a48bea08c33f04c81"), looks := false }, kinds := [], alts := [], laidByText := true, laidKinds := [.data, .data, .data, .data, .pinned], laidTests := true, laidLooks := .later }
def NatPowersUptoCardSaid : Prop := Claim7.holds Tryd.pinned (.plain (OpenSpec.upto natPowersSpec)) natPowersUptoCard
end Rows
end Go.Proofs.YtmndfncogkjjpaaDoor
