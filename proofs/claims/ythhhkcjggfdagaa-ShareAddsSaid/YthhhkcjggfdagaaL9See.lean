/- Layer 9: what a tree tells of itself (see, See, Is). -/
import Derived.Test.YthhhkcjggfdagaaL9Make
namespace Go.Proofs.Ythhhkcjggfdagaa
open Go.RowKit Go.Proofs.Treem
variable {Nd : NdP}

theorem told_zero (t : Tr) : [] ++ t.told = t.told := rfl
end Go.Proofs.Ythhhkcjggfdagaa
