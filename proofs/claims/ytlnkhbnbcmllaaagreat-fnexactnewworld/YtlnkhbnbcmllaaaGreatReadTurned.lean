import Derived.Test.YtlnkhbnbcmllaaaGreatNamesLaw
import Derived.Test.YtlnkhbnbcmllaaaGreatDigits
import Derived.Test.YtlnkhbnbcmllaaaGreatRingA
import Derived.Test.YtlnkhbnbcmllaaaGreatPiecesBase
/- spec.l3Digit, spec.l3Number. -/
namespace Go.Proofs.YtlnkhbnbcmllaaaGreat
open Go.RowKit
end Go.Proofs.YtlnkhbnbcmllaaaGreat
/- spec.l3Bytes: digits read loosely. -/
namespace Go.Proofs.YtlnkhbnbcmllaaaGreat
open Go.RowKit
end Go.Proofs.YtlnkhbnbcmllaaaGreat
/- spec.l3Cut: the lines of a text. -/
namespace Go.Proofs.YtlnkhbnbcmllaaaGreat
open Go.RowKit
end Go.Proofs.YtlnkhbnbcmllaaaGreat
/- Reading what was written: digits, lines. -/
namespace Go.Proofs.YtlnkhbnbcmllaaaGreat
open Go.RowKit
end Go.Proofs.YtlnkhbnbcmllaaaGreat
/- What reading a list means. -/
namespace Go.Proofs.YtlnkhbnbcmllaaaGreat
open Go.RowKit
/-- What ReadList answers: the valid list whose form the text is, or nothing. -/
def ReadR (s : ByteArray) (m n : Int) (ss : List ByteArray) (ok : Bool) : Prop :=
  (ok = true ∧ okL n ss m = true ∧ formR n ss m = s) ∨ (ok = false ∧ n = 0 ∧ ss = [] ∧ ∀ n' ss', okL n' ss' m = true → formR n' ss' m ≠ s)
theorem bytes_ext {a b : ByteArray} (h : a.data.toList = b.data.toList) : a = b := by
  rcases a with ⟨⟨a⟩⟩
  rcases b with ⟨⟨b⟩⟩
  simp at h
  rw [h]
/-- Texts that no valid list has as its form. -/
def NoForm (s : ByteArray) (m : Int) : Prop := ∀ n' ss', okL n' ss' m = true → formR n' ss' m ≠ s
/-! The lines one by one -/
end Go.Proofs.YtlnkhbnbcmllaaaGreat
/- spec.ReadList: what is turned away at once. -/
namespace Go.Proofs.YtlnkhbnbcmllaaaGreat
open Go.RowKit
/-- What the two readers answer. -/
def ReadA (s : ByteArray) (m : Int) (w : World) (e : Ending) (w' : World) : Prop :=
  ∃ (v : Value) (n : Int) (ss : List ByteArray) (ok : Bool), e = .returned (.tuple #[.agg #[.int .i64 n, v], .bool ok]) ∧ ReadR s m n ss ok ∧ w'.ownsRow w.heap.size 9 1 v ss.length (ss.map Value.string) ∧ Below w.heap.size w w'
theorem ReadA.no {s : ByteArray} {m : Int} {w w' : World} (h : NoForm s m) (hb : Below w.heap.size w w') : ReadA s m w (.returned (.tuple #[.agg #[.int .i64 0, .slice none 0 0], .bool false])) w' :=
  ⟨_, 0, [], false, rfl, .inr ⟨rfl, rfl, rfl, h⟩, World.ownsRow_nil _ _ _ _, hb⟩
end Go.Proofs.YtlnkhbnbcmllaaaGreat
