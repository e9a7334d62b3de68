/-
  DERIVED. GIVEN WITH THE SEED: THE CARDS: each row of YtjnnfineebabaaaDoorRows.lean that lists a variable, with what it lists TIED to the program's text (the seventh form; the later family's looks); each row that meets fmt, with fmt's text TOLD by the authors' own Lean function (tested against real Go, not proved from fmt's source: count such statements apart). THE CARD IS WHAT COUNTS. Prove the row's statement (the work); the ties are given (YtjnnfineebabaaaDoorTie.lean); close each card by the builder's one call (the guide's Derived/Test/ToyasCard.lean, 'card_holds'). Laid BY PROGRAM, IN A SANDBOX (cutbox-door.mjs). By AI agents, Wed Nov 11 2026. No macro, syntax, notation, axiom, sorry.
-/
import Derived.Test.YtjnnfineebabaaaDoorRows
import GoSem.ClaimSeven
namespace Go.Proofs.YtjnnfineebabaaaDoor
namespace Rows

/-- THE TIED CARD OF 'joinerylaw05.RowsetTells'. -/
def rowsetTellsCard : Claim7 := { stood := { row := rowsetTellsRow, standIns := [], harness := (true, "962008cbb7725e979da32f820d39100a92ccf3b1e8abbdb4f5567186f75a97ff"), looks := false }, kinds := [], alts := [], laidByText := true, laidKinds := [.data], laidTests := true, laidLooks := .later }
def RowsetTellsCardSaid : Prop := Claim7.holds Tryd.pinned (.plain (OpenSpec.ofChange rowsetTellsSpec)) rowsetTellsCard

/-- THE TIED CARD OF 'joinerylaw05.RowsetAlgebra'. -/
def rowsetAlgebraCard : Claim7 := { stood := { row := rowsetAlgebraRow, standIns := [], harness := (true, "962008cbb7725e979da32f820d39100a92ccf3b1e8abbdb4f5567186f75a97ff"), looks := false }, kinds := [], alts := [], laidByText := true, laidKinds := [.data], laidTests := true, laidLooks := .later }
def RowsetAlgebraCardSaid : Prop := Claim7.holds Tryd.pinned (.plain (OpenSpec.ofChange rowsetAlgebraSpec)) rowsetAlgebraCard

/-- THE TIED CARD OF 'joinerylaw05.RowsetThree'. -/
def rowsetThreeCard : Claim7 := { stood := { row := rowsetThreeRow, standIns := [], harness := (true, "962008cbb7725e979da32f820d39100a92ccf3b1e8abbdb4f5567186f75a97ff"), looks := false }, kinds := [], alts := [], laidByText := true, laidKinds := [.data], laidTests := true, laidLooks := .later }
def RowsetThreeCardSaid : Prop := Claim7.holds Tryd.pinned (.plain (OpenSpec.ofChange rowsetThreeSpec)) rowsetThreeCard

/-- THE TIED CARD OF 'joinerylaw05.RowsetCut'. -/
def rowsetCutCard : Claim7 := { stood := { row := rowsetCutRow, standIns := [], harness := (true, "962008cbb7725e979da32f820d39100a92ccf3b1e8abbdb4f5567186f75a97ff"), looks := false }, kinds := [], alts := [], laidByText := true, laidKinds := [.data], laidTests := true, laidLooks := .later }
def RowsetCutCardSaid : Prop := Claim7.holds Tryd.pinned (.plain (OpenSpec.ofChange rowsetCutSpec)) rowsetCutCard

/-- THE SECOND FORM's CARD OF 'joinerylaw05.RowsetTells'. -/
def rowsetTellsUptoCard : Claim7 := { stood := { row := rowsetTellsUptoRow, standIns := [], harness := (true, "962008cbb7725e979da32f820d39100a92ccf3b1e8abbdb4f5567186f75a97ff"), looks := false }, kinds := [], alts := [], laidByText := true, laidKinds := [.data], laidTests := true, laidLooks := .later }
def RowsetTellsUptoCardSaid : Prop := Claim7.holds Tryd.pinned (.plain (OpenSpec.upto rowsetTellsSpec)) rowsetTellsUptoCard

/-- THE SECOND FORM's CARD OF 'joinerylaw05.RowsetAlgebra'. -/
def rowsetAlgebraUptoCard : Claim7 := { stood := { row := rowsetAlgebraUptoRow, standIns := [], harness := (true, "962008cbb7725e979da32f820d39100a92ccf3b1e8abbdb4f5567186f75a97ff"), looks := false }, kinds := [], alts := [], laidByText := true, laidKinds := [.data], laidTests := true, laidLooks := .later }
def RowsetAlgebraUptoCardSaid : Prop := Claim7.holds Tryd.pinned (.plain (OpenSpec.upto rowsetAlgebraSpec)) rowsetAlgebraUptoCard

/-- THE SECOND FORM's CARD OF 'joinerylaw05.RowsetThree'. -/
def rowsetThreeUptoCard : Claim7 := { stood := { row := rowsetThreeUptoRow, standIns := [], harness := (true, "962008cbb7725e979da32f820d39100a92ccf3b1e8abbdb4f5567186f75a97ff"), looks := false }, kinds := [], alts := [], laidByText := true, laidKinds := [.data], laidTests := true, laidLooks := .later }
def RowsetThreeUptoCardSaid : Prop := Claim7.holds Tryd.pinned (.plain (OpenSpec.upto rowsetThreeSpec)) rowsetThreeUptoCard

/-- THE SECOND FORM's CARD OF 'joinerylaw05.RowsetCut'. -/
def rowsetCutUptoCard : Claim7 := { stood := { row := rowsetCutUptoRow, standIns := [], harness := (true, "962008cbb7725e979da32f820d39100a92ccf3b1e8abbdb4f5567186f75a97ff"), looks := false }, kinds := [], alts := [], laidByText := true, laidKinds := [.data], laidTests := true, laidLooks := .later }
def RowsetCutUptoCardSaid : Prop := Claim7.holds Tryd.pinned (.plain (OpenSpec.upto rowsetCutSpec)) rowsetCutUptoCard
end Rows
end Go.Proofs.YtjnnfineebabaaaDoor
