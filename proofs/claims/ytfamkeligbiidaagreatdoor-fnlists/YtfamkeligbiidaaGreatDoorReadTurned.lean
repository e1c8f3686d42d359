/- spec.ReadList: what is turned away at once. -/
import Derived.Test.YtfamkeligbiidaaGreatDoorReadMath
namespace Go.Proofs.YtfamkeligbiidaaGreatDoor
open Go.RowKit
theorem word_eq (s : ByteArray) : ((s.extract 0 5).toList == [115, 105, 122, 101, 32]) = decide (s.data.toList.take 5 = [115, 105, 122, 101, 32]) := by
  rw [ByteArray.toList_eq, ext_list]
  simp only [List.drop_zero, Nat.sub_zero]
  rw [Bool.eq_iff_iff]
  simp
theorem lines_sizes (s : ByteArray) (h : s.size ≤ 7000) : (linesOf s).length ≤ 7001 ∧ ∀ i, ((linesOf s).getD i ByteArray.empty).size ≤ 7000 := by
  have key : ∀ k, k ≤ s.size → ∀ p ∈ (linesTo s k).2, p.size ≤ 7000 := by
    intro k
    induction k with
    | zero => intro _ p hp; simp [linesTo] at hp
    | succ k ih =>
      intro hk p hp
      unfold linesTo at hp
      split at hp
      · rcases List.mem_append.1 hp with hp | hp
        · exact ih (by omega) p hp
        · simp only [List.mem_cons, List.not_mem_nil, or_false] at hp
          rw [hp, ByteArray.size_extract]; omega
      · exact ih (by omega) p hp
  have hl := (linesTo_le s s.size).2
  refine ⟨by unfold linesOf; rw [List.length_append]; simp; omega, fun i => ?_⟩
  by_cases hi : i < (linesOf s).length
  · rw [List.getD_eq_getElem?_getD, List.getElem?_eq_getElem hi]
    have hm := List.getElem_mem hi
    simp only [Option.getD_some]
    generalize (linesOf s)[i] = p at *
    unfold linesOf at hm
    rcases List.mem_append.1 hm with hp | hp
    · exact key _ (Nat.le_refl _) p hp
    · simp only [List.mem_cons, List.not_mem_nil, or_false] at hp
      rw [hp, ByteArray.size_extract]; omega
  · rw [List.getD_eq_getElem?_getD, List.getElem?_eq_none (by omega)]
    simp
theorem byL_len : ∀ l : List UInt8, (byL l).length ≤ l.length
  | [] => by simp [byL]
  | [a] => by simp [byL]
  | a :: b :: r => by
    have := byL_len r
    show ((_ : UInt8) :: byL r).length ≤ _
    simp only [List.length_cons]; omega
theorem byB_size (p : ByteArray) : (byB p).size ≤ p.size := by
  show (byL p.data.toList).toArray.size ≤ _
  rw [List.size_toArray]
  have := byL_len p.data.toList
  rw [Array.length_toList] at this
  exact this
theorem secs_sizes (s : ByteArray) (h : s.size ≤ 7000) : (secs (linesOf s)).length ≤ 7001 ∧ ∀ i, ((secs (linesOf s)).getD i ByteArray.empty).size ≤ 7000 := by
  obtain ⟨h1, h2⟩ := lines_sizes s h
  refine ⟨by unfold secs; rw [List.length_map, List.length_dropLast, List.length_drop]; omega, fun i => ?_⟩
  unfold secs
  by_cases hi : i < (((linesOf s).drop 1).dropLast.map byB).length
  · rw [List.getD_eq_getElem?_getD, List.getElem?_eq_getElem hi, Option.getD_some, List.getElem_map]
    refine Nat.le_trans (byB_size _) ?_
    rw [List.getElem_dropLast, List.getElem_drop]
    have := h2 (1 + i)
    rw [List.length_map, List.length_dropLast, List.length_drop] at hi
    rwa [List.getD_eq_getElem?_getD, List.getElem?_eq_getElem (by omega), Option.getD_some] at this
  · rw [List.getD_eq_getElem?_getD, List.getElem?_eq_none (by omega)]
    simp
/-- The sums of the first j lines behind the first. -/
def secTo (ls : List ByteArray) (j : Nat) : List ByteArray := ((ls.drop 1).take j).map byB
theorem secTo_step (ls : List ByteArray) (j : Nat) (h : j + 1 < ls.length) : secTo ls (j + 1) = secTo ls j ++ [byB (ls.getD (j + 1) ByteArray.empty)] := by
  unfold secTo
  rw [List.take_add_one, List.map_append]
  congr 1
  rw [List.getElem?_drop, Nat.add_comm 1 j, List.getD_eq_getElem?_getD, List.getElem?_eq_getElem h]
  rfl
theorem secTo_end (ls : List ByteArray) : secTo ls (ls.length - 2) = secs ls := by
  unfold secTo secs
  rw [List.dropLast_eq_take, List.length_drop]
  congr 2
theorem secTo_len (ls : List ByteArray) (j : Nat) (h : j ≤ ls.length - 2) : (secTo ls j).length = j := by
  unfold secTo
  rw [List.length_map, List.length_take, List.length_drop]; omega
/-- What the two readers answer. -/
def ReadA (s : ByteArray) (m : Int) (w : World) (e : Ending) (w' : World) : Prop :=
  ∃ (v : Value) (n : Int) (ss : List ByteArray) (ok : Bool), e = .returned (.tuple #[.agg #[.int .i64 n, v], .bool ok]) ∧ ReadR s m n ss ok ∧ w'.ownsRow w.heap.size 9 1 v ss.length (ss.map Value.string) ∧ Below w.heap.size w w'
theorem ReadA.no {s : ByteArray} {m : Int} {w w' : World} (h : NoForm s m) (hb : Below w.heap.size w w') : ReadA s m w (.returned (.tuple #[.agg #[.int .i64 0, .slice none 0 0], .bool false])) w' :=
  ⟨_, 0, [], false, rfl, .inr ⟨rfl, rfl, rfl, h⟩, World.ownsRow_nil _ _ _ _, hb⟩
set_option maxRecDepth 100000 in
set_option maxHeartbeats 1000000 in
theorem specReadList_turned (s : ByteArray) (m : Int) (w : World) (hs : s.size ≤ maxLen) (h : s.size < 6 ∨ 7000 < s.size ∨ (6 ≤ s.size ∧ s.size ≤ 7000 ∧ s.data.toList.take 5 ≠ [115, 105, 122, 101, 32])) :
    Calls Tryz.prog 16 #[.string s, .int .i64 m] w (ReadA s m w) := by
  unfold maxLen at hs
  have HB := hid ((Below.refl w.heap.size w).alloc (Nat.le_refl _) (.cells #[.int .i64 0, .slice none 0 0] 27))
  rcases h with h | h | ⟨h6, h7, hw⟩
  · have hN := hid (noForm_size (m := m) (s := s) (.inl h))
    have h' : (s.size : Int) < 6 := by omega
    go_enter Tryz.func16, Tryz.ntmps16
    go_wp2
    exact bodyPost_ret (v := .tuple #[.agg #[.int .i64 0, .slice none 0 0], .bool false]) (by simp [results, Tryz.results16, go_sem]) rfl (ReadA.no hN.out HB.out)
  · have hN := hid (noForm_size (m := m) (s := s) (.inr h))
    have h' : ¬ ((s.size : Int) < 6) := by omega
    have h'' : (7000 : Int) < (s.size : Int) := by omega
    go_enter Tryz.func16, Tryz.ntmps16
    go_wp2
    exact bodyPost_ret (v := .tuple #[.agg #[.int .i64 0, .slice none 0 0], .bool false]) (by simp [results, Tryz.results16, go_sem]) rfl (ReadA.no hN.out HB.out)
  · have hN := hid (noForm_word (m := m) hw)
    have h' : ¬ ((s.size : Int) < 6) := by omega
    have h'' : ¬ ((7000 : Int) < (s.size : Int)) := by omega
    have hq : ((s.extract 0 5).toList == [115, 105, 122, 101, 32]) = false := by rw [word_eq s]; simpa using hw
    have h5 : (5 : Int) ≤ (s.size : Int) := by omega
    clear hw
    go_enter Tryz.func16, Tryz.ntmps16
    go_wp2
    exact bodyPost_ret (v := .tuple #[.agg #[.int .i64 0, .slice none 0 0], .bool false]) (by simp [results, Tryz.results16, go_sem]) rfl (ReadA.no hN.out HB.out)
end Go.Proofs.YtfamkeligbiidaaGreatDoor
