/- spec.Unpin: left out. -/
import Derived.Test.YtlnkhbnbcmllaaaGreatUnpinImpl
namespace Go.Proofs.YtlnkhbnbcmllaaaGreat
open Go.RowKit
def offL (name : ByteArray) (ts : List ByteArray) : List ByteArray := ts.filter fun t => !(t.toList == name.toList)
theorem off_step (name : ByteArray) (ts : List ByteArray) (k : Nat) (h : k < ts.length) : offL name (ts.take (k + 1)) = if (tv ts k).toList == name.toList then offL name (ts.take k) else offL name (ts.take k) ++ [tv ts k] := by
  have e : tv ts k = ts[k] := by simp [tv, h]
  rw [e]
  unfold offL
  rw [List.take_succ_eq_append_getElem h, List.filter_append]
  cases g : (ts[k].toList == name.toList) <;> simp [g]
theorem off_none {name : ByteArray} {ts : List ByteArray} (h : ∀ i, i < ts.length → tv ts i ≠ name) : offL name ts = ts := by
  unfold offL
  refine List.filter_eq_self.2 fun t ht => ?_
  obtain ⟨i, hi, rfl⟩ := List.getElem_of_mem ht
  have h1 := h i hi
  have e : tv ts i = ts[i] := by simp [tv, hi]
  rw [e] at h1
  simp only [Bool.not_eq_true', beq_eq_false_iff_ne]
  exact fun e2 => h1 (text_eq e2)
theorem off_one {name : ByteArray} {ts : List ByteArray} (hA : Asc ts) {i : Nat} (hi : i < ts.length) (he : tv ts i = name) : offL name ts = ts.eraseIdx i := by
  have key : ∀ (ts : List ByteArray), Asc ts → ∀ i, i < ts.length → tv ts i = name → offL name ts = ts.eraseIdx i := by
    intro ts
    induction ts with
    | nil => intro _ i hi; simp at hi
    | cons a l ih =>
      intro hA i hi he
      cases i with
      | zero =>
        have ea : a = name := by simpa [tv] using he
        subst ea
        have : offL a l = l := by
          unfold offL
          refine List.filter_eq_self.2 fun t ht => ?_
          simp only [Bool.not_eq_true', beq_eq_false_iff_ne]
          intro e2
          have h1 := (List.pairwise_cons.1 hA).1 t ht
          rw [text_eq e2, tlt_irrefl] at h1
          cases h1
        unfold offL at this ⊢
        simp [this]
      | succ i =>
        have hi' : i < l.length := by simpa using hi
        have he' : tv l i = name := by simpa [tv] using he
        have h1 := ih (List.pairwise_cons.1 hA).2 i hi' he'
        have hne : (a.toList == name.toList) = false := by
          rw [beq_eq_false_iff_ne]
          intro e2
          have hm : tv l i ∈ l := by simp [tv, hi']
          have h2 := (List.pairwise_cons.1 hA).1 _ hm
          rw [he', text_eq e2, tlt_irrefl] at h2
          cases h2
        unfold offL at h1 ⊢
        simp [hne, h1]
  exact key ts hA i hi he
theorem offL_len (name : ByteArray) (ts : List ByteArray) : (offL name ts).length ≤ ts.length := List.length_filter_le _ _
end Go.Proofs.YtlnkhbnbcmllaaaGreat
