import Derived.Test.YtlnkhbnbcmllaaaGreatBytes
import Derived.Test.YtlnkhbnbcmllaaaGreatStrs
import Derived.WalkSmall
/- The pieces of a text: spec.l2Ends, spec.Pieces. -/
namespace Go.Proofs.YtlnkhbnbcmllaaaGreat
open Go.RowKit
theorem Tryz.info9 : (Tryz.prog.info? 9).map (fun i => (i.zero, i.size, i.bytes)) = some (some (.string ⟨#[]⟩), 1, 16) := by kernel_rfl
theorem append_below {w w' w1 : World} {B : Nat} {e : TypeId} {n : Nat} {xs : List Value} {v : Value} {o : Obj} (hb : Below B w w') (hown : w'.ownsRow B e 1 v n xs) (hg : (w'.alloc o).grownBy w1 v.ownBlock) (hB : B ≤ w'.heap.size := by first | exact Below.size (by assumption) | omega) : Below B w w1 :=
  (hb.alloc hB _).grown hg (by simp; omega) (fun k e => (hown.lt k e).1)
end Go.Proofs.YtlnkhbnbcmllaaaGreat
/- The ring of the last bytes: add, sum, isCut. -/
namespace Go.Proofs.YtlnkhbnbcmllaaaGreat
open Go.RowKit
end Go.Proofs.YtlnkhbnbcmllaaaGreat
/- The ring of a text's last bytes, as the text's bytes come. -/
namespace Go.Proofs.YtlnkhbnbcmllaaaGreat
open Go.RowKit
end Go.Proofs.YtlnkhbnbcmllaaaGreat
