/- strings.Join of what was read. -/
import Derived.Test.YtnpfnafalkejnaaStretch
import Derived.Test.YtnpfnafalkejnaaSetMix
namespace Go.Proofs.Ytnpfnafalkejnaa
open Go.RowKit
theorem joinR_any (v : Value) (ts : List ByteArray) (w : World) (hv : Rdc w v ts) (hl : ts.length ≤ 500) (hsz : ∀ t ∈ ts, t.size ≤ 8) :
    Calls Try.prog 42 #[v, .string ⟨#[]⟩] w fun e w' => e = .returned (.string ⟨(joinB ts).toArray⟩) ∧ Below w.heap.size w w' := by
  obtain ⟨a, cap, rfl, hcap, hx⟩ := hv
  rcases hx with rfl | ⟨b, off, rfl, hb, hx⟩
  · refine (join_none a cap w).mono ?_
    rintro e w' ⟨rfl, rfl⟩
    exact ⟨rfl, Below.refl _ _⟩
  · exact join_any b off cap ts w hb hl hcap hsz hx
end Go.Proofs.Ytnpfnafalkejnaa
