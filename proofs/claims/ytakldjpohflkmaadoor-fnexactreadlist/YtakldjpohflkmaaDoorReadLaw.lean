/- Reading what was written: digits, lines. -/
import Derived.Test.YtakldjpohflkmaaDoorHexRead
import Derived.Test.YtakldjpohflkmaaDoorLines
namespace Go.Proofs.YtakldjpohflkmaaDoor
open Go.RowKit
theorem digI_hx : ∀ j : Fin 16, digI (hx j.val).toNat = (j.val : Int) := by decide
theorem byL_hexL : ∀ l : List UInt8, byL (hexL l) = l
  | [] => rfl
  | b :: l => by
    have e : hexL (b :: l) = hx (b.toNat / 16) :: hx (b.toNat % 16) :: hexL l := by simp [hexL]
    have hb := b.toNat_lt
    have d1 := digI_hx ⟨b.toNat / 16, by omega⟩
    have d2 := digI_hx ⟨b.toNat % 16, by omega⟩
    rw [e]
    show UInt8.ofNat (byI (hx (b.toNat / 16)).toNat (hx (b.toNat % 16)).toNat).toNat :: byL (hexL l) = b :: l
    rw [byL_hexL l]
    unfold byI
    rw [d1, d2]
    have : ((16 * ((b.toNat / 16 : Nat) : Int) + ((b.toNat % 16 : Nat) : Int)) % 256).toNat = b.toNat := by omega
    rw [show ((16 * (((⟨b.toNat / 16, by omega⟩ : Fin 16).val : Nat) : Int) + (((⟨b.toNat % 16, by omega⟩ : Fin 16).val : Nat) : Int)) % 256).toNat = b.toNat from this]
    congr 1
    exact UInt8.toNat_inj.1 (by rw [UInt8.toNat_ofNat']; omega)
/-- The lines of a list of bytes; the last is what lies behind the last newline. -/
def cutL : List UInt8 → List UInt8 → List (List UInt8)
  | cur, [] => [cur]
  | cur, b :: l => if b = 10 then cur :: cutL [] l else cutL (cur ++ [b]) l
theorem cutL_line : ∀ (l A cur : List UInt8), (∀ b ∈ l, b ≠ 10) → cutL cur (l ++ 10 :: A) = (cur ++ l) :: cutL [] A
  | [], A, cur, _ => by simp [cutL]
  | b :: l, A, cur, h => by
    have hb : b ≠ 10 := h b (by simp)
    show (if b = 10 then _ else cutL (cur ++ [b]) (l ++ 10 :: A)) = _
    rw [if_neg hb, cutL_line l A (cur ++ [b]) (fun x hx => h x (by simp [hx]))]
    simp
theorem cutL_rows : ∀ ss : List ByteArray, cutL [] (rowsL ss) = ss.map (fun s => hexL s.data.toList) ++ [[]]
  | [] => rfl
  | s :: r => by
    have e : rowsL (s :: r) = hexL s.data.toList ++ 10 :: rowsL r := by simp [rowsL]
    rw [e, cutL_line _ _ _ (hexL_no _), cutL_rows r]
    simp
theorem ext_list (s : ByteArray) (f k : Nat) : (s.extract f k).data.toList = (s.data.toList.drop f).take (k - f) := by
  simp [ByteArray.data_extract, Array.toList_extract, List.extract]
theorem lines_cut (s : ByteArray) : ∀ k, k ≤ s.size → cutL [] s.data.toList = (linesTo s k).2.map (fun p => p.data.toList) ++ cutL (s.extract (linesTo s k).1 k).data.toList (s.data.toList.drop k)
  | 0, _ => by
    rw [ext_list]
    simp [linesTo]
  | k + 1, h => by
    have ih := lines_cut s k (by omega)
    have hk : k < s.data.toList.length := by rw [Array.length_toList]; exact h
    have hle := (linesTo_le s k).1
    rw [List.drop_eq_getElem_cons hk] at ih
    have hg : s.data.toList.getD k 0 = s.data.toList[k] := by rw [List.getD_eq_getElem?_getD, List.getElem?_eq_getElem hk]; rfl
    by_cases h10 : s.data.toList.getD k 0 = 10
    · rw [linesTo_cut s k h10]
      rw [ih]
      have e0 : (s.extract (k + 1) (k + 1)).data.toList = [] := by rw [ext_list]; simp
      simp only [e0]
      rw [hg] at h10
      show _ ++ (if s.data.toList[k] = 10 then _ else _) = _
      rw [if_pos h10]
      simp
    · rw [linesTo_on s k h10]
      rw [ih]
      rw [hg] at h10
      show _ ++ (if s.data.toList[k] = 10 then _ else _) = _
      rw [if_neg h10]
      congr 2
      rw [ext_list, ext_list, show k + 1 - (linesTo s k).1 = k - (linesTo s k).1 + 1 by omega, List.take_succ_eq_append_getElem (by rw [List.length_drop]; omega)]
      congr 2
      rw [List.getElem_drop]
      congr 1
      omega
theorem linesOf_cut (s : ByteArray) : (linesOf s).map (fun p => p.data.toList) = cutL [] s.data.toList := by
  rw [lines_cut s s.size (Nat.le_refl _)]
  have : s.data.toList.drop s.size = [] := List.drop_eq_nil_of_le (by rw [Array.length_toList]; exact Nat.le_refl _)
  rw [this]
  simp [linesOf, cutL]
end Go.Proofs.YtakldjpohflkmaaDoor
