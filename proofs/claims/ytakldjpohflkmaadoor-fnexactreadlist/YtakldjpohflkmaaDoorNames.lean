/- spec.Name and impl.Name: the name of a text. -/
import Derived.Test.YtakldjpohflkmaaDoorFormImpl
import Derived.Test.YtakldjpohflkmaaDoorDescSpec
import Derived.Test.YtakldjpohflkmaaDoorDescImpl
namespace Go.Proofs.YtakldjpohflkmaaDoor
open Go.RowKit
/-- The name of a text. -/
def nameB (s : ByteArray) (m : Int) : ByteArray := if hasL s m then sumT m (formR (descN s m) (descS s m) m) else ⟨#[]⟩
theorem sumT_no {m : Int} (h : isW m = false) (s : ByteArray) : sumT m s = ⟨#[]⟩ := by
  unfold sumT sumOf
  rw [h]; simp
theorem descS_size (s : ByteArray) (m : Int) : ∀ i, ((descS s m).getD i ByteArray.empty).size ≤ maxLen := by
  intro i
  have key : ∀ x ∈ descS s m, x.size ≤ 8 := by
    intro x hx
    unfold descS at hx
    split at hx
    · obtain ⟨p, _, rfl⟩ := List.mem_map.1 hx
      exact sumT_size m p
    · simp at hx
  by_cases h : i < (descS s m).length
  · rw [List.getD_eq_getElem?_getD, List.getElem?_eq_getElem h]
    have := key _ (List.getElem_mem h)
    unfold maxLen
    simp only [Option.getD_some]
    omega
  · rw [List.getD_eq_getElem?_getD, List.getElem?_eq_none (by omega)]
    simp
theorem formR_size (s : ByteArray) (m : Int) : (formR (descN s m) (descS s m) m).size ≤ maxLen := by
  unfold formR
  split
  · next h =>
    unfold okL at h
    simp only [Bool.and_eq_true, decide_eq_true_eq, List.all_eq_true] at h
    obtain ⟨hw, hn, hl, hall⟩ := h
    have hm8 : 1 ≤ m ∧ m ≤ 8 := by simpa [isW] using hw
    show (formL (descN s m).toNat (descS s m)).toArray.size ≤ maxLen
    rw [List.size_toArray]
    have h1 := rowsL_len 8 (descS s m) (fun x hx => by have := hall x hx; omega)
    have h2 := decB_len4 (descN s m).toNat (by omega)
    have h5 : (descS s m).length * (2 * 8 + 1) ≤ 375 * 17 := Nat.mul_le_mul hl (by omega)
    unfold formL headL maxLen
    simp only [List.length_append, List.length_cons, List.length_nil]
    omega
  · simp [maxLen, ByteArray.size]
end Go.Proofs.YtakldjpohflkmaaDoor
