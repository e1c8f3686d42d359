/- What impl.openStore calls: isBlob, isTime, slices.Clone; items as elements of a map. -/
import Derived.Shelf.Slices.Clone
import Derived.Test.YtlnkhbnbcmllaaaGreatStoreSpec
import Derived.Maps.OwnSet
namespace Go.Proofs.YtlnkhbnbcmllaaaGreat
open Go.RowKit Go.Shelf
set_option maxRecDepth 100000 in
set_option maxHeartbeats 400000 in
theorem isBlob_any (t : ByteArray) (w : World) (ht : t.size ≤ maxLen) : Calls Tryz.prog 82 #[.string t] w fun e w' => e = .returned (.bool (decide (1 ≤ t.size ∧ t.size ≤ 7000))) ∧ w' = w := by
  unfold maxLen at ht
  by_cases h1 : 1 ≤ t.size
  · by_cases h2 : t.size ≤ 7000
    · rw [decide_eq_true ⟨h1, h2⟩]
      go_enter Tryz.func82, Tryz.ntmps82
      go_wp2
      go_ret
      exact ⟨by simp; omega, rfl⟩
    · rw [decide_eq_false (fun h => h2 h.2)]
      go_enter Tryz.func82, Tryz.ntmps82
      go_wp2
      go_ret
      exact ⟨by simp; omega, rfl⟩
  · rw [decide_eq_false (fun h => h1 h.1)]
    have h0 : t.size = 0 := by omega
    go_enter Tryz.func82, Tryz.ntmps82
    go_wp2
    go_ret
    exact ⟨by simp, rfl⟩
set_option maxRecDepth 100000 in
set_option maxHeartbeats 400000 in
theorem isTime_any (u : Int) (w : World) : Calls Tryz.prog 74 #[.int .i64 u] w fun e w' => e = .returned (.bool (decide (0 ≤ u ∧ u ≤ 1000000))) ∧ w' = w := by
  by_cases h1 : 0 ≤ u
  · by_cases h2 : u ≤ 1000000
    · rw [decide_eq_true ⟨h1, h2⟩]
      go_enter Tryz.func74, Tryz.ntmps74
      go_wp2
      go_ret
      exact ⟨by simp, rfl⟩
    · rw [decide_eq_false (fun h => h2 h.2)]
      go_enter Tryz.func74, Tryz.ntmps74
      go_wp2
      go_ret
      exact ⟨by simp, rfl⟩
  · rw [decide_eq_false (fun h => h1 h.1)]
    go_enter Tryz.func74, Tryz.ntmps74
    go_wp2
    go_ret
    exact ⟨by simp, rfl⟩
def cRen : Ren := { f := fun n => if n = 16 then 81 else n, t := fun n => if n = 24 then 23 else n, g := fun n => n }
theorem cLays : Lays2.n16 Tryz.prog cRen where
  mixed := by kernel_rfl
  f16 := by kernel_rfl
  t4 := by kernel_rfl
  a4 := fun _ => by kernel_rfl
  z4 := fun _ => by kernel_rfl
  v4 := fun _ => by kernel_rfl
  t9 := by kernel_rfl
  a9 := fun _ => by kernel_rfl
  z9 := fun _ => by kernel_rfl
  v9 := fun _ => by kernel_rfl
  t24 := by kernel_rfl
  a24 := fun _ => by kernel_rfl
  z24 := fun _ => by kernel_rfl
  v24 := fun _ => by kernel_rfl
  i9 := by kernel_rfl
theorem cloneRow_any (v : Value) (ts : List ByteArray) (w : World) (hv : Reads w v ts) (hl : ts.length ≤ 1048576) :
    Calls Tryz.prog 81 #[v] w fun e w' => ∃ v', e = .returned v' ∧ w'.ownsRow w.heap.size 9 1 v' ts.length (ts.map Value.string) ∧ Below w.heap.size w w' := by
  rcases hv with ⟨rfl, a, cap, rfl⟩ | ⟨b, off, cap, rfl, hb, hc⟩
  · cases a with
    | none =>
      refine (Any.slices_Clone_string_nil cLays 0 cap w).mono ?_
      rintro e w' ⟨rfl, rfl⟩
      exact ⟨_, rfl, World.ownsRow_nil _ _ _ _, Below.refl _ _⟩
    | some a =>
      refine (Any.slices_Clone_string_zero cLays a cap w).mono ?_
      rintro e w' ⟨v', rfl, h1, _, h2⟩
      exact ⟨_, rfl, h1, h2⟩
  · refine (Any.slices_Clone_string cLays b off ts.length cap ts w (Nat.le_refl _) (by omega) hc).mono ?_
    rintro e w' ⟨v', rfl, h1, _, h2⟩
    rw [List.take_length] at h1
    exact ⟨_, rfl, h1, h2⟩
/-- How an item reads as an element of a map. -/
def itemElem (v : Value) : Option (DataW Unit × List MemPlace) :=
  match v with
  | .agg cs => (match cs.toList with
    | [.string t, .int .i64 u] => some (.agg [.lit (.string t.data.toList), .lit (.int .i64 u)], [])
    | _ => none)
  | _ => none
theorem itemElem_mk (t : ByteArray) (u : Int) : itemElem (.agg #[.string t, .int .i64 u]) = some (.agg [.lit (.string t.data.toList), .lit (.int .i64 u)], []) := rfl
/-- The map of the first items. -/
def mapI (n : Int) (its : Itms) : Nat → DataW Unit
  | 0 => .map []
  | k + 1 => (mapI n its k).put (.string (sumX n (itx its k)).data.toList) (.agg [.lit (.string (itx its k).data.toList), .lit (.int .i64 (itu its k))])
theorem makeItems (n : Nat) (w : World) : (Instr.makeMap 107 (some (.int .i64 (n : Int)))).run Tryz.prog w = .ok (.map (some w.heap.size)) (w.alloc (.map #[] 0)) := by
  simp [Instr.makeMap, go_sem]
theorem sumX_size (n : Int) (p : ByteArray) : (sumX n p).size ≤ 8 := by
  show (sumOf p.data.toList n).toArray.size ≤ 8
  rw [List.size_toArray]; exact sumOf_len _ _
theorem keyed9 : Maps.Keyed Tryz.prog 9 := Maps.string_keyed Tryz.underlying9
theorem key9 (s : ByteArray) (h : s.size ≤ maxLen) : keyOf Tryz.prog 9 (.string s) = some (.string s.data.toList) := WideMaps.keyOf_string_mk Tryz.underlying9 h
end Go.Proofs.YtlnkhbnbcmllaaaGreat
