/- markStringS turns the row's own block alone. -/
import Derived.Test.YtiflibkabmkloaaListLaw
namespace Go.Proofs.Ytiflibkabmkloaa
open Go.RowKit
theorem grown_same {A B C : World} {o : Option Nat} (h : A.grownBy B o) (k : B.grownBy C o) : A.grownBy C o :=
  ⟨k.os.trans h.os, k.tape.trans h.tape, k.output.trans h.output, Nat.le_trans h.size k.size, fun j hj hne => (k.block j (Nat.lt_of_lt_of_le hj h.size) hne).trans (h.block j hj hne)⟩
theorem grown_below' {A B : World} {o : Option Nat} (h : Below A.heap.size A B) : A.grownBy B o := ⟨h.os, h.tape, h.output, h.size, fun k hk _ => h.block k hk⟩
theorem grown_refl (A : World) (o : Option Nat) : A.grownBy A o := ⟨rfl, rfl, rfl, Nat.le_refl _, fun _ _ _ => rfl⟩
end Go.Proofs.Ytiflibkabmkloaa
