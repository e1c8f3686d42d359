/- spec.l3Dec: the decimal of a number. -/
import Derived.Test.YtlnkhbnbcmllaaaGreatBytes
import Derived.Test.YtlnkhbnbcmllaaaGreatHeld
import Derived.Test.YtlnkhbnbcmllaaaGreatListBox
import Derived.Lib.ItoaNum
import Derived.Shelf.Abstract
namespace Go.Proofs.YtlnkhbnbcmllaaaGreat
open Go.RowKit
def decB (n : Nat) : ByteArray := ⟨(Lib.decDigits n).toArray⟩
theorem decB_small {n : Nat} (h : n < 10) : decB n = ⟨#[UInt8.ofNat (48 + n)]⟩ := by
  unfold decB
  rw [Lib.decDigits, dif_pos h]
theorem decB_step {n : Nat} (h : ¬ n < 10) : decB n = ⟨(decB (n / 10)).data ++ #[UInt8.ofNat (48 + n % 10)]⟩ := by
  unfold decB
  rw [Lib.decDigits, dif_neg h]
  simp
theorem decB_len : ∀ (f n : Nat), n ≤ f → (decB n).size ≤ n + 1
  | 0, n, h => by
    obtain rfl : n = 0 := by omega
    rw [decB_small (by omega)]; simp [ByteArray.size]
  | f + 1, n, h => by
    by_cases h10 : n < 10
    · rw [decB_small h10]; simp [ByteArray.size]
    · have ih := decB_len f (n / 10) (by omega)
      rw [decB_step h10]
      show ((decB (n / 10)).data ++ #[UInt8.ofNat (48 + n % 10)]).size ≤ n + 1
      rw [Array.size_append]
      have : (decB (n / 10)).data.size = (decB (n / 10)).size := rfl
      simp only [List.size_toArray, List.length_cons, List.length_nil]
      omega
theorem app_mk (d : ByteArray) (c : UInt8) : d ++ ⟨#[c]⟩ = ⟨d.data ++ #[c]⟩ := by
  rcases d with ⟨⟨l⟩⟩
  have := ByteArray.mk_append_mk l [c]
  simpa using this
theorem conv_at {W : World} {b : Nat} {q : Int} (h : W.cell? ⟨b, 0, none⟩ = some (.int .u8 q)) : (convert 135 9 (.slice (some ⟨b, 0, none⟩) 1 1)).run Tryz.prog W = .ok (.string ⟨#[UInt8.ofNat q.toNat]⟩) W :=
  run_convert_bytes_arg _ 135 5 Tryz.underlying135 Tryz.underlying5 b 0 1 1 [q] rfl (fun i hi => by
    obtain rfl : i = 0 := by omega
    simpa using h) 9 Tryz.underlying9
end Go.Proofs.YtlnkhbnbcmllaaaGreat
