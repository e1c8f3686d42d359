/- spec.ValidWorld. -/
import Derived.Test.YtlnkhbnbcmllaaaGreatWorlds
import Derived.Test.YtlnkhbnbcmllaaaGreatFetchValid
namespace Go.Proofs.YtlnkhbnbcmllaaaGreat
open Go.RowKit
/-- What a message in flight is. -/
structure MgOk (n : Nat) (p : Mg) : Prop where
  fr : 0 ≤ p.fr ∧ p.fr ≤ n
  dst : 0 ≤ p.to ∧ p.to ≤ n
  sum : p.sum.size ≤ 8
  text : p.text.size ≤ 7000
/-- What a valid world is. -/
structure ValidW (x : Wd) : Prop where
  fetch : ValidF x.nm x.now x.wd x.room x.its x.ts x.ps
  up : x.bs.length = x.ps.length
  many : x.ss.length = x.ps.length
  few : x.ms.length ≤ 300
  wst : 0 ≤ x.wst
  each : ∀ i, i < x.ss.length → ValidSt (sat x.ss i).wd (sat x.ss i).room (sat x.ss i).its (sat x.ss i).ts ∧ (sat x.ss i).wd = x.wd
  flight : ∀ i, i < x.ms.length → MgOk x.ps.length (mat x.ms i)
end Go.Proofs.YtlnkhbnbcmllaaaGreat
