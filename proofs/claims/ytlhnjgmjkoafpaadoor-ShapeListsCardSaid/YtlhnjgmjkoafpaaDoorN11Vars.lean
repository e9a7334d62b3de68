/- Layer 11: the names of the library's variables that the rows list: the powers of ten, two errors. -/
import Derived.Test.YtlhnjgmjkoafpaaDoorRows
import Derived.Test.YtlhnjgmjkoafpaaDoorGRow
namespace Go.Proofs.YtlhnjgmjkoafpaaDoor
open Go.RowKit
abbrev tens : String := (Rows.shapeListsRow.laid.getD 2 ("", .agg [])).1
abbrev rang : String := (Rows.shapeListsRow.laid.getD 3 ("", .agg [])).1
abbrev synt : String := (Rows.shapeListsRow.laid.getD 4 ("", .agg [])).1
end Go.Proofs.YtlhnjgmjkoafpaaDoor
