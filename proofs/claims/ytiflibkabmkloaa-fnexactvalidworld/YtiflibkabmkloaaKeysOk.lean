/- What is asked of maps.Keys and slices.Sorted. -/
import Derived.Test.YtiflibkabmkloaaMapMath
namespace Go.Proofs.Ytiflibkabmkloaa
open Go.RowKit Go.Sort
end Go.Proofs.Ytiflibkabmkloaa
