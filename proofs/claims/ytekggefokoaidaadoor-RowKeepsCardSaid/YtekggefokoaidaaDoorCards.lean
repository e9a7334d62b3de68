/-
  DERIVED. GIVEN WITH THE SEED: THE CARDS: each row of YtekggefokoaidaaDoorRows.lean that lists a variable, with what it lists TIED to the program's text (the seventh form; the later family's looks); each row that meets fmt, with fmt's text TOLD by the authors' own Lean function (tested against real Go, not proved from fmt's source: count such statements apart). THE CARD IS WHAT COUNTS. Prove the row's statement (the work); the ties are given (YtekggefokoaidaaDoorTie.lean); close each card by the builder's one call (the guide's Derived/Test/ToyasCard.lean, 'card_holds'). Laid BY PROGRAM, IN A SANDBOX (cutbox-door.mjs). By AI agents, Wed Nov 11 2026. No macro, syntax, notation, axiom, sorry.
-/
import Derived.Test.YtekggefokoaidaaDoorRows
import GoSem.ClaimSeven
namespace Go.Proofs.YtekggefokoaidaaDoor
namespace Rows

/-- THE TIED CARD OF 'joinerylaw04.RowTells'. -/
def rowTellsCard : Claim7 := { stood := { row := rowTellsRow, standIns := [], harness := (true, "0cbcb6abb39c9974281283b3cc4120f684888a8017a4e91b6ca729b0dd82c5e4"), looks := false }, kinds := [], alts := [], laidByText := true, laidKinds := [.data], laidTests := true, laidLooks := .later }
def RowTellsCardSaid : Prop := Claim7.holds Tryd.pinned (.plain (OpenSpec.ofChange rowTellsSpec)) rowTellsCard

/-- THE TIED CARD OF 'joinerylaw04.RowKeeps'. -/
def rowKeepsCard : Claim7 := { stood := { row := rowKeepsRow, standIns := [], harness := (true, "0cbcb6abb39c9974281283b3cc4120f684888a8017a4e91b6ca729b0dd82c5e4"), looks := false }, kinds := [], alts := [], laidByText := true, laidKinds := [.data], laidTests := true, laidLooks := .later }
def RowKeepsCardSaid : Prop := Claim7.holds Tryd.pinned (.plain (OpenSpec.ofChange rowKeepsSpec)) rowKeepsCard

/-- THE TIED CARD OF 'joinerylaw04.RowEnds'. -/
def rowEndsCard : Claim7 := { stood := { row := rowEndsRow, standIns := [], harness := (true, "0cbcb6abb39c9974281283b3cc4120f684888a8017a4e91b6ca729b0dd82c5e4"), looks := false }, kinds := [], alts := [], laidByText := true, laidKinds := [.data], laidTests := true, laidLooks := .later }
def RowEndsCardSaid : Prop := Claim7.holds Tryd.pinned (.plain (OpenSpec.ofChange rowEndsSpec)) rowEndsCard

/-- THE SECOND FORM's CARD OF 'joinerylaw04.RowTells'. -/
def rowTellsUptoCard : Claim7 := { stood := { row := rowTellsUptoRow, standIns := [], harness := (true, "0cbcb6abb39c9974281283b3cc4120f684888a8017a4e91b6ca729b0dd82c5e4"), looks := false }, kinds := [], alts := [], laidByText := true, laidKinds := [.data], laidTests := true, laidLooks := .later }
def RowTellsUptoCardSaid : Prop := Claim7.holds Tryd.pinned (.plain (OpenSpec.upto rowTellsSpec)) rowTellsUptoCard

/-- THE SECOND FORM's CARD OF 'joinerylaw04.RowKeeps'. -/
def rowKeepsUptoCard : Claim7 := { stood := { row := rowKeepsUptoRow, standIns := [], harness := (true, "0cbcb6abb39c9974281283b3cc4120f684888a8017a4e91b6ca729b0dd82c5e4"), looks := false }, kinds := [], alts := [], laidByText := true, laidKinds := [.data], laidTests := true, laidLooks := .later }
def RowKeepsUptoCardSaid : Prop := Claim7.holds Tryd.pinned (.plain (OpenSpec.upto rowKeepsSpec)) rowKeepsUptoCard

/-- THE SECOND FORM's CARD OF 'joinerylaw04.RowEnds'. -/
def rowEndsUptoCard : Claim7 := { stood := { row := rowEndsUptoRow, standIns := [], harness := (true, "0cbcb6abb39c9974281283b3cc4120f684888a8017a4e91b6ca729b0dd82c5e4"), looks := false }, kinds := [], alts := [], laidByText := true, laidKinds := [.data], laidTests := true, laidLooks := .later }
def RowEndsUptoCardSaid : Prop := Claim7.holds Tryd.pinned (.plain (OpenSpec.upto rowEndsSpec)) rowEndsUptoCard
end Rows
end Go.Proofs.YtekggefokoaidaaDoor
