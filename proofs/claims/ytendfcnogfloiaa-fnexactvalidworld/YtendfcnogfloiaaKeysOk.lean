/- What is asked of maps.Keys and slices.Sorted. -/
import Derived.Test.YtendfcnogfloiaaMapMath
namespace Go.Proofs.Ytendfcnogfloiaa
open Go.RowKit Go.Sort
end Go.Proofs.Ytendfcnogfloiaa
