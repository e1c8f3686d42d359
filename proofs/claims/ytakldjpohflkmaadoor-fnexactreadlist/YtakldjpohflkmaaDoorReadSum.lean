/- impl.readSum: a line of digits. -/
import Derived.Test.YtakldjpohflkmaaDoorReadSize
import Derived.Laws.MakeOwn
namespace Go.Proofs.YtakldjpohflkmaaDoor
open Go.RowKit Go.Shelf
/-- The value of a digit, below 0 if it is none. -/
def dv (c : UInt8) : Int := Lib.indexByte [48, 49, 50, 51, 52, 53, 54, 55, 56, 57, 97, 98, 99, 100, 101, 102] c
set_option maxRecDepth 100000 in
theorem dv_all : ∀ n : Fin 256, dv (UInt8.ofNat n.val) = -1 ∨ (0 ≤ dv (UInt8.ofNat n.val) ∧ dv (UInt8.ofNat n.val) < 16 ∧ hx (dv (UInt8.ofNat n.val)).toNat = UInt8.ofNat n.val) := by decide
theorem dv_hx : ∀ j : Fin 16, dv (hx j.val) = (j.val : Int) := by decide
theorem dv_of (c : UInt8) : dv c = -1 ∨ (0 ≤ dv c ∧ dv c < 16 ∧ hx (dv c).toNat = c) := by
  have h := dv_all ⟨c.toNat, c.toNat_lt⟩
  have e : UInt8.ofNat c.toNat = c := UInt8.toNat_inj.1 (by rw [UInt8.toNat_ofNat']; have := c.toNat_lt; omega)
  simpa only [e] using h
theorem hexL_dv (l : List UInt8) : ∀ b ∈ hexL l, 0 ≤ dv b := by
  intro b hb
  unfold hexL at hb
  obtain ⟨c, _, hc⟩ := List.mem_flatMap.1 hb
  have hc256 := c.toNat_lt
  simp only [List.mem_cons, List.not_mem_nil, or_false] at hc
  rcases hc with rfl | rfl
  · rw [dv_hx ⟨c.toNat / 16, by omega⟩]; exact Int.natCast_nonneg _
  · rw [dv_hx ⟨c.toNat % 16, by omega⟩]; exact Int.natCast_nonneg _
def nib (l : List UInt8) (j : Nat) : Nat := (dv (l.getD j 0)).toNat
/-- A byte when i digits have been read. -/
def bst (l : List UInt8) (i k : Nat) : Nat := if 2 * k + 1 < i then 16 * nib l (2 * k) + nib l (2 * k + 1) else if 2 * k < i then nib l (2 * k) else 0
def rowS (l : List UInt8) (m i : Nat) : List Value := (List.range m).map fun k => .int .u8 ((bst l i k : Nat) : Int)
theorem nib_lt (l : List UInt8) (j : Nat) : nib l j < 16 := by
  unfold nib
  rcases dv_of (l.getD j 0) with h | ⟨h1, h2, _⟩
  · rw [h]; decide
  · omega
theorem bst_old (l : List UInt8) (i : Nat) : bst l i (i / 2) < 16 := by
  unfold bst
  rw [if_neg (by omega)]
  split
  · exact nib_lt _ _
  · omega
theorem bst_new (l : List UInt8) (i : Nat) : bst l (i + 1) (i / 2) = 16 * bst l i (i / 2) + nib l i := by
  rcases Nat.mod_two_eq_zero_or_one i with h | h
  · have e : 2 * (i / 2) = i := by omega
    unfold bst
    rw [if_neg (by omega), if_pos (by omega), if_neg (by omega), if_neg (by omega), e]
    omega
  · have e : 2 * (i / 2) + 1 = i := by omega
    unfold bst
    rw [if_pos (by omega), if_neg (by omega), if_pos (by omega), e]
theorem bst_other (l : List UInt8) (i k : Nat) (h : k ≠ i / 2) : bst l (i + 1) k = bst l i k := by
  unfold bst
  by_cases h1 : 2 * k + 1 < i
  · rw [if_pos h1, if_pos (by omega)]
  · rw [if_neg h1, if_neg (by omega)]
    by_cases h2 : 2 * k < i
    · rw [if_pos h2, if_pos (by omega)]
    · rw [if_neg h2, if_neg (by omega)]
theorem rowS_len (l : List UInt8) (m i : Nat) : (rowS l m i).length = m := by simp [rowS]
theorem rowS_get (l : List UInt8) (m i k : Nat) (h : k < m) : (rowS l m i)[k]? = some (.int .u8 ((bst l i k : Nat) : Int)) := by
  simp [rowS, h]
theorem rowS_set (l : List UInt8) (m i : Nat) : (rowS l m i).set (i / 2) (.int .u8 ((bst l (i + 1) (i / 2) : Nat) : Int)) = rowS l m (i + 1) := by
  apply List.ext_getElem?
  intro k
  by_cases hk : k < m
  · rw [rowS_get l m (i + 1) k hk]
    by_cases e : i / 2 = k
    · subst e
      rw [List.getElem?_set_self (by rw [rowS_len]; exact hk)]
    · rw [List.getElem?_set_ne e, rowS_get l m i k hk, bst_other l i k (fun h => e h.symm)]
  · rw [List.getElem?_eq_none (by rw [List.length_set, rowS_len]; omega), List.getElem?_eq_none (by rw [rowS_len]; omega)]
theorem rowS_zero (l : List UInt8) (m : Nat) : rowS l m 0 = List.replicate m (.int .u8 0) := by
  apply List.ext_getElem?
  intro k
  by_cases hk : k < m
  · rw [rowS_get l m 0 k hk]
    have : bst l 0 k = 0 := by unfold bst; rw [if_neg (by omega), if_neg (by omega)]
    rw [this]
    simp [hk]
  · rw [List.getElem?_eq_none (by rw [rowS_len]; omega), List.getElem?_eq_none (by simp; omega)]
/-- The bytes that digits say. -/
def dig8 (l : List UInt8) (m : Nat) : List UInt8 := (List.range m).map fun k => UInt8.ofNat (16 * nib l (2 * k) + nib l (2 * k + 1))
theorem hx_nib {c : UInt8} (h : 0 ≤ dv c) : hx (dv c).toNat = c := by
  rcases dv_of c with h1 | ⟨_, _, h3⟩
  · omega
  · exact h3
theorem hexL_dig8 : ∀ (m : Nat) (l : List UInt8), l.length = 2 * m → (∀ b ∈ l, 0 ≤ dv b) → hexL (dig8 l m) = l
  | 0, [], _, _ => rfl
  | 0, a :: l, h, _ => by simp at h
  | m + 1, [], h, _ => by simp at h
  | m + 1, [a], h, _ => by simp at h; omega
  | m + 1, a :: b :: l, h, hd => by
    have ih := hexL_dig8 m l (by simp at h; omega) (fun x hx => hd x (by simp [hx]))
    have e : dig8 (a :: b :: l) (m + 1) = UInt8.ofNat (16 * nib (a :: b :: l) 0 + nib (a :: b :: l) 1) :: dig8 l m := by
      unfold dig8
      rw [List.range_succ_eq_map, List.map_cons, List.map_map]
      congr 1
    have e2 : ∀ (x : UInt8) (t : List UInt8), hexL (x :: t) = hx (x.toNat / 16) :: hx (x.toNat % 16) :: hexL t := fun x t => by simp [hexL]
    have n0 : nib (a :: b :: l) 0 = (dv a).toNat := rfl
    have n1 : nib (a :: b :: l) 1 = (dv b).toNat := rfl
    have l0 := nib_lt (a :: b :: l) 0
    have l1 := nib_lt (a :: b :: l) 1
    have e3 : (UInt8.ofNat (16 * nib (a :: b :: l) 0 + nib (a :: b :: l) 1)).toNat = 16 * nib (a :: b :: l) 0 + nib (a :: b :: l) 1 := by
      rw [UInt8.toNat_ofNat']; omega
    rw [e, e2, ih, e3, show (16 * nib (a :: b :: l) 0 + nib (a :: b :: l) 1) / 16 = nib (a :: b :: l) 0 by omega, show (16 * nib (a :: b :: l) 0 + nib (a :: b :: l) 1) % 16 = nib (a :: b :: l) 1 by omega, n0, n1, hx_nib (hd a (by simp)), hx_nib (hd b (by simp))]
theorem rowS_end (l : List UInt8) (m : Nat) : rowS l m (2 * m) = Lib.byteCells (dig8 l m) := by
  unfold rowS dig8 Lib.byteCells
  rw [List.map_map]
  apply List.map_congr_left
  intro k hk
  have hk' : k < m := by simpa using hk
  have l0 := nib_lt l (2 * k)
  have l1 := nib_lt l (2 * k + 1)
  have e : bst l (2 * m) k = 16 * nib l (2 * k) + nib l (2 * k + 1) := by unfold bst; rw [if_pos (by omega)]
  rw [e]
  show Value.int .u8 _ = Value.int .u8 ((UInt8.ofNat (16 * nib l (2 * k) + nib l (2 * k + 1))).toNat : Int)
  rw [UInt8.toNat_ofNat', Nat.mod_eq_of_lt (by omega)]
/-- What readSum answers. -/
def SumR (line : ByteArray) (m : Int) (e : Ending) : Prop :=
  (∃ p : ByteArray, (p.size : Int) = m ∧ hexL p.data.toList = line.data.toList ∧ e = .returned (.tuple #[.string p, .nilIface])) ∨ ((∀ p : ByteArray, (p.size : Int) = m → hexL p.data.toList ≠ line.data.toList) ∧ ∃ (tp : TypeId) (q : Value), e = .returned (.tuple #[.string ⟨#[]⟩, .iface tp q]))
theorem noSum_len {line : ByteArray} {m : Nat} (h : line.size ≠ 2 * m) : ∀ p : ByteArray, (p.size : Int) = m → hexL p.data.toList ≠ line.data.toList := fun p hp e => by
  have := congrArg List.length e
  rw [hexL_len, Array.length_toList, Array.length_toList] at this
  have e1 : p.data.size = p.size := rfl
  have e2 : line.data.size = line.size := rfl
  omega
theorem noSum_digit {line : ByteArray} {m : Int} (i : Nat) (hi : i < line.size) (h : dv (line[i]'hi) < 0) : ∀ p : ByteArray, (p.size : Int) = m → hexL p.data.toList ≠ line.data.toList := fun p _ e => by
  have hk : i < line.data.toList.length := by rw [Array.length_toList]; exact hi
  have := hexL_dv p.data.toList (line[i]'hi) (by rw [e]; exact List.getElem_mem hk)
  omega
theorem or_nib (a v : Nat) (ha : a < 16) (hv : v < 16) : (16 * a) ||| v = 16 * a + v := by
  have key : ∀ a : Fin 16, ∀ v : Fin 16, (16 * a.val) ||| v.val = 16 * a.val + v.val := by decide
  exact key ⟨a, ha⟩ ⟨v, hv⟩
end Go.Proofs.YtakldjpohflkmaaDoor
