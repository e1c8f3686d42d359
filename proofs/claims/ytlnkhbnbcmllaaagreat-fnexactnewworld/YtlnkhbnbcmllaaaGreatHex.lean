/- spec.l3Hex and impl.digitsOf: two digits for each byte. -/
import Derived.Test.YtlnkhbnbcmllaaaGreatDec
import Derived.Test.YtlnkhbnbcmllaaaGreatSums
import Derived.Lib.AppendStr
import Derived.Lib.UnsafeStr
namespace Go.Proofs.YtlnkhbnbcmllaaaGreat
open Go.RowKit
def hexD : List UInt8 := [48, 49, 50, 51, 52, 53, 54, 55, 56, 57, 97, 98, 99, 100, 101, 102]
def hx (j : Nat) : UInt8 := hexD.getD j 0
def hexL (l : List UInt8) : List UInt8 := l.flatMap fun b => [hx (b.toNat / 16), hx (b.toNat % 16)]
def hexB (s : ByteArray) : ByteArray := ⟨(hexL s.data.toList).toArray⟩
theorem hexL_len : ∀ l : List UInt8, (hexL l).length = 2 * l.length
  | [] => rfl
  | b :: l => by
    have := hexL_len l
    unfold hexL at this ⊢
    rw [List.flatMap_cons, List.length_append, this]
    simp; omega
theorem hexL_snoc (l : List UInt8) (b : UInt8) : hexL (l ++ [b]) = hexL l ++ [hx (b.toNat / 16), hx (b.toNat % 16)] := by
  unfold hexL; rw [List.flatMap_append]; simp
theorem lt16 {P : Nat → Prop} (h : P 0 ∧ P 1 ∧ P 2 ∧ P 3 ∧ P 4 ∧ P 5 ∧ P 6 ∧ P 7 ∧ P 8 ∧ P 9 ∧ P 10 ∧ P 11 ∧ P 12 ∧ P 13 ∧ P 14 ∧ P 15) (j : Nat) (hj : j < 16) : P j := by
  obtain ⟨h0, h1, h2, h3, h4, h5, h6, h7, h8, h9, h10, h11, h12, h13, h14, h15⟩ := h
  have : j = 0 ∨ j = 1 ∨ j = 2 ∨ j = 3 ∨ j = 4 ∨ j = 5 ∨ j = 6 ∨ j = 7 ∨ j = 8 ∨ j = 9 ∨ j = 10 ∨ j = 11 ∨ j = 12 ∨ j = 13 ∨ j = 14 ∨ j = 15 := by omega
  rcases this with rfl | rfl | rfl | rfl | rfl | rfl | rfl | rfl | rfl | rfl | rfl | rfl | rfl | rfl | rfl | rfl <;> assumption
theorem run_hex (W : World) (j : Nat) (hj : j < 16) : (Instr.index 9 (.string ⟨#[48, 49, 50, 51, 52, 53, 54, 55, 56, 57, 97, 98, 99, 100, 101, 102]⟩) (.int .u8 (j : Int))).run Tryz.prog W = .ok (.int .u8 ((hx j).toNat : Int)) W :=
  lt16 (P := fun j => (Instr.index 9 (.string ⟨#[48, 49, 50, 51, 52, 53, 54, 55, 56, 57, 97, 98, 99, 100, 101, 102]⟩) (.int .u8 (j : Int))).run Tryz.prog W = .ok (.int .u8 ((hx j).toNat : Int)) W)
    ⟨by kernel_rfl, by kernel_rfl, by kernel_rfl, by kernel_rfl, by kernel_rfl, by kernel_rfl, by kernel_rfl, by kernel_rfl, by kernel_rfl, by kernel_rfl, by kernel_rfl, by kernel_rfl, by kernel_rfl, by kernel_rfl, by kernel_rfl, by kernel_rfl⟩ j hj
theorem exec_index {P : Program} {a : Act} {o : Oper} {t : TypeId} {x i : Operand} {s : ByteArray} {k : IntKind} {j : Int} {v : Value} {w : World} (ho : o.op = .index t x i) (hx : a.eval x = .string s) (hi : a.eval i = .int k j)
    (h : (Instr.index t (.string s) (.int k j)).run P w = .ok v w) : (execOp a.eval o).run P w = .ok (.value v) w := by
  unfold execOp
  simp only [ho, hx, hi, Sem.run_bind, Sem.run_pure, Result.andThen_ok, h]
theorem cell_two_new (W : World) (x y : Value) (j : Nat) (u : Value) (h : [x, y][j]? = some u) : (W.alloc (.cells #[x, y] 5)).drew.cell? ((⟨W.heap.size, 0, none⟩ : Addr).add j) = some u := by
  have hn : (W.alloc (.cells #[x, y] 5)).drew.heap[W.heap.size]? = some (.cells #[x, y] 5 (0, 0)) := World.alloc_heap_new W _
  have ea : (⟨W.heap.size, 0, none⟩ : Addr).add j = ⟨W.heap.size, j, none⟩ := by simp [Addr.add]; omega
  rw [ea, cell_of_heap hn]
  simpa using h
theorem Tryz.infoByte : (Tryz.prog.info? 5).map (fun i => (i.zero, i.size, i.bytes)) = some (some (.int .u8 0), 1, 1) := by kernel_rfl
theorem hexL_take (s : ByteArray) (k : Nat) (h : k < s.size) : Lib.byteCells (hexL (s.data.toList.take (k + 1))) = Lib.byteCells (hexL (s.data.toList.take k)) ++ [.int .u8 ((hx (s[k].toNat / 16)).toNat : Int), .int .u8 ((hx (s[k].toNat % 16)).toNat : Int)] := by
  rw [take_snoc s k h, hexL_snoc]
  simp [Lib.byteCells]
theorem row_shape5 {w : World} {base n : Nat} {e : TypeId} {v : Value} {xs : List Value} (h : w.ownsRow base e 1 v n xs) : ∃ a cap, v = .slice a n cap := by
  rcases h with ⟨_, ⟨rfl, rfl⟩ | ⟨g, cap, cur, rfl, hb, _⟩⟩
  · exact ⟨none, 0, rfl⟩
  · exact ⟨_, cap, rfl⟩
theorem nums_bytes (l : List UInt8) : strOfNums (l.map fun b => (b.toNat : Int)) = ⟨l.toArray⟩ := by
  unfold strOfNums
  rw [List.map_map]
  have : ((fun n : Int => UInt8.ofNat n.toNat) ∘ fun b : UInt8 => (b.toNat : Int)) = id := by funext b; simp
  rw [this, List.map_id]
theorem conv_bytes {w : World} {base k : Nat} {v : Value} {l : List UInt8} (h : w.ownsRow base 5 1 v k (Lib.byteCells l)) :
    (convert 135 9 v).run Tryz.prog w = .ok (.string ⟨l.toArray⟩) w := by
  have e : Lib.byteCells l = (l.map fun b => (b.toNat : Int)).map (Value.int .u8) := by simp [Lib.byteCells]
  rw [e] at h
  rw [← nums_bytes]
  generalize (l.map fun b => (b.toNat : Int)) = ys at *
  have hl : ys.length = k := by have := h.1; simpa using this
  rcases h with ⟨h1, ⟨rfl, rfl⟩ | ⟨g, cap, cur, rfl, hb, hg, hn, hm, hs, hx⟩⟩
  · have : ys = [] := List.eq_nil_of_length_eq_zero hl
    subst this
    exact run_convert_bytes_nil w 135 5 Tryz.underlying135 Tryz.underlying5 0 0 9 Tryz.underlying9
  · have hr : w.ownsRow base 5 1 (.slice (some ⟨g, 0, none⟩) k cap) k (ys.map (Value.int .u8)) := ⟨h1, .inr ⟨g, cap, cur, rfl, hb, hg, hn, hm, hs, hx⟩⟩
    refine run_convert_bytes_arg w 135 5 Tryz.underlying135 Tryz.underlying5 g 0 k cap ys hl (fun i hi => ?_) 9 Tryz.underlying9
    rw [Nat.zero_add, hr.cellAt i (by omega)]
    have : i < ys.length := by omega
    simp [this]
end Go.Proofs.YtlnkhbnbcmllaaaGreat
