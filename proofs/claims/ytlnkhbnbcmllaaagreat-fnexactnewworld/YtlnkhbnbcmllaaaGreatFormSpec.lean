/- spec.FormList writes a list. -/
import Derived.Test.YtlnkhbnbcmllaaaGreatMarked
import Derived.Test.YtlnkhbnbcmllaaaGreatHex
import Derived.Test.YtlnkhbnbcmllaaaGreatListOk
namespace Go.Proofs.YtlnkhbnbcmllaaaGreat
open Go.RowKit
/-- The form of a list, byte by byte. -/
def headL (n : Nat) : List UInt8 := [115, 105, 122, 101, 32] ++ Lib.decDigits n ++ [10]
def rowsL (ss : List ByteArray) : List UInt8 := ss.flatMap fun s => hexL s.data.toList ++ [10]
def formL (n : Nat) (ss : List ByteArray) : List UInt8 := headL n ++ rowsL ss
def formR (n : Int) (ss : List ByteArray) (m : Int) : ByteArray := if okL n ss m then ⟨(formL n.toNat ss).toArray⟩ else ⟨#[]⟩
theorem rowsL_take (ss : List ByteArray) (k : Nat) (h : k < ss.length) : rowsL (ss.take (k + 1)) = rowsL (ss.take k) ++ hexL (ss.getD k ByteArray.empty).data.toList ++ [10] := by
  unfold rowsL
  rw [List.take_add_one, List.flatMap_append, List.getElem?_eq_getElem h]
  simp [h]
theorem head_text (n : Nat) : (⟨#[115, 105, 122, 101, 32]⟩ : ByteArray) ++ decB n ++ ⟨#[10]⟩ = ⟨(headL n).toArray⟩ := by
  unfold decB headL
  have h1 := ByteArray.mk_append_mk [115, 105, 122, 101, 32] (Lib.decDigits n)
  have h2 := ByteArray.mk_append_mk ([115, 105, 122, 101, 32] ++ Lib.decDigits n) [10]
  exact (congrArg (fun x : ByteArray => x ++ ⟨#[10]⟩) h1).trans h2
/-- The form's first lines: how long, and as cells. -/
def fl (n : Nat) (ss : List ByteArray) (k : Nat) : Nat := (headL n ++ rowsL (ss.take k)).length
def fc (n : Nat) (ss : List ByteArray) (k : Nat) : List Value := Lib.byteCells (headL n ++ rowsL (ss.take k))
theorem cells_rows (n : Nat) (ss : List ByteArray) (k : Nat) (h : k < ss.length) : fc n ss (k + 1) = fc n ss k ++ Lib.strCells (hexB (ss.getD k ByteArray.empty)) ++ [.int .u8 10] := by
  unfold fc
  rw [rowsL_take ss k h]
  simp [Lib.byteCells, Lib.strCells, hexB]
theorem decB_len4 (n : Nat) (h : n ≤ 3000) : (Lib.decDigits n).length ≤ 3001 := by
  have := decB_len n n (Nat.le_refl _)
  have e : (decB n).size = (Lib.decDigits n).length := by
    show (Lib.decDigits n).toArray.size = _
    simp
  omega
theorem rowsL_len (m : Nat) : ∀ ss : List ByteArray, (∀ s ∈ ss, s.size ≤ m) → (rowsL ss).length ≤ ss.length * (2 * m + 1)
  | [], _ => by simp [rowsL]
  | s :: ss, h => by
    have ih := rowsL_len m ss (fun x hx => h x (by simp [hx]))
    have hs := h s (by simp)
    unfold rowsL at ih ⊢
    rw [List.flatMap_cons, List.length_append, List.length_append, hexL_len]
    have e : (s :: ss).length * (2 * m + 1) = ss.length * (2 * m + 1) + (2 * m + 1) := by rw [List.length_cons, Nat.add_mul, Nat.one_mul]
    have e2 : s.data.toList.length = s.size := by rw [Array.length_toList]; rfl
    rw [e, e2, List.length_cons, List.length_nil]
    generalize ss.length * (2 * m + 1) = X at *
    omega
theorem conv_mrow {w : World} {base n : Nat} {v : Value} {l : List UInt8} (h : MRow w base v n (Lib.byteCells l)) : (convert 135 9 v).run Tryz.prog w = .ok (.string ⟨l.toArray⟩) w := by
  obtain ⟨g, cap, rfl⟩ := h.form
  have e : Lib.byteCells l = (l.map fun b => (b.toNat : Int)).map (Value.int .u8) := by simp [Lib.byteCells]
  have hl : (l.map fun b => (b.toNat : Int)).length = n := by
    have := h.1
    rw [Lib.byteCells_length] at this
    simpa using this
  rw [← nums_bytes]
  refine run_convert_bytes_arg w 135 5 Tryz.underlying135 Tryz.underlying5 g 0 n cap _ hl (fun i hi => ?_) 9 Tryz.underlying9
  rw [Nat.zero_add]
  refine h.cell i _ ?_
  rw [e]
  have : i < (l.map fun b => (b.toNat : Int)).length := by omega
  simp only [List.length_map] at this
  simp [this]
end Go.Proofs.YtlnkhbnbcmllaaaGreat
