/- slices.Sorted of maps.Keys of the map of items, laid at this program. -/
import Derived.Shelf.SlIter.Nil
import Derived.Shelf.SortM.Plain
import Derived.Shelf.SortM.SortNone
import Derived.Test.YtiflibkabmkloaaKeysOk
namespace Go.Proofs.Ytiflibkabmkloaa
open Go.RowKit Go.Maps Go.Sort Go.Shelf
end Go.Proofs.Ytiflibkabmkloaa
