/- The arguments of laws: how long they are; copies of them. -/
import Derived.Test.YtlnkhbnbcmllaaaGreatListBox
import Derived.Laws.MakeOwn
namespace Go.Proofs.YtlnkhbnbcmllaaaGreat
open Go.RowKit
def tv (ts : List ByteArray) (i : Nat) : ByteArray := ts.getD i ByteArray.empty
set_option maxRecDepth 100000 in
set_option maxHeartbeats 1000000 in
theorem szStrs_any (v : Value) (ts : List ByteArray) (L : Nat) (w : World) (hv : Reads w v ts) (hl : ts.length ≤ maxLen) (hsz : ∀ i, (tv ts i).size ≤ maxLen) (hL : L ≤ 1048576) :
    Calls Tryz.prog 42 #[v, .int .i64 L] w fun e w' => ∃ r : Int, e = .returned (.int .i64 r) ∧ r ≤ L ∧ (0 ≤ r → ts.length ≤ L ∧ ∀ i, (tv ts i).size ≤ L) ∧ w' = w := by
  unfold maxLen at hl
  obtain ⟨a, ca, rfl, hca⟩ := hv.form
  by_cases h1 : L < ts.length
  · have h1' : (L : Int) - (ts.length : Int) < 0 := by omega
    go_enter Tryz.func42, Tryz.ntmps42
    go_wp2
    go_ret
    exact ⟨-1, rfl, by omega, fun h => by omega, rfl⟩
  · have h1' : ¬ ((L : Int) - (ts.length : Int) < 0) := by omega
    have HC : Hid (∀ i, i < ts.length → ∃ b off, a = some ⟨b, off, none⟩ ∧ b < w.heap.size ∧ w.cell? ⟨b, off + i, none⟩ = some (.string (tv ts i))) := hca
    have HSZ := hid hsz
    clear hca hv hsz
    go_enter Tryz.func42, Tryz.ntmps42
    go_wp2
    go_loop [1, 5] (fun l' i' => ∃ l i : Nat, i ≤ ts.length ∧ i' = .int .i64 i ∧ l' = .int .i64 l ∧ l ≤ L ∧ ∀ k, k < i → (tv ts k).size ≤ L) (fun _ i' => ts.length - (intOf i').toNat)
    case atStart => exact ⟨L - ts.length, 0, Nat.zero_le _, rfl, by go_num, by omega, fun k hk => by omega⟩
    case round =>
      obtain ⟨l, i, hi, rfl, rfl, hll, hs⟩ := hrel
      have HS := hid hs
      clear hs
      by_cases hil : i < ts.length
      · obtain ⟨b, o, rfl, hb, hc⟩ := HC.out i hil
        have hz := HSZ.out i
        generalize hti : tv ts i = t at *
        have HTI := hid hti
        clear hti
        unfold maxLen at hz
        by_cases hlt : l < t.size
        · have hlt' : (l : Int) - (t.size : Int) < 0 := by omega
          go_wp2
          go_ret
          exact ⟨-1, rfl, by omega, fun h => by omega, rfl⟩
        · have hlt' : ¬ ((l : Int) - (t.size : Int) < 0) := by omega
          go_wp2
          go_round
          case rel => exact ⟨l - t.size, i + 1, by omega, by go_num, by go_num, by omega, fun k hk => (Nat.lt_or_eq_of_le (Nat.le_of_lt_succ hk)).elim (HS.out k) (fun e => by rw [e, HTI.out]; omega)⟩
          case measure => simp [intOf]; omega
      · obtain rfl : i = ts.length := by omega
        go_wp2
        go_ret
        refine ⟨_, rfl, by omega, fun _ => ⟨by omega, fun k => ?_⟩, rfl⟩
        by_cases hk : k < ts.length
        · exact HS.out k hk
        · have : tv ts k = ByteArray.empty := by simp [tv, hk]
          rw [this]; simp
/-- A row of which the first m strings have been copied. -/
def halfA (m : Nat) (ts : List ByteArray) (M : List Value) : List Value := (ts.take m).map Value.string ++ M.drop m
theorem halfA_get (m : Nat) (ts : List ByteArray) (M : List Value) (h : m < M.length) (hl : ts.length = M.length) : (halfA m ts M)[m]? = M[m]? := by
  simp [halfA, List.getElem?_append, show min m ts.length = m by omega]
theorem halfA_set (m : Nat) (ts : List ByteArray) (M : List Value) (h : m < M.length) (hl : ts.length = M.length) : (halfA m ts M).set m (.string (tv ts m)) = halfA (m + 1) ts M := by
  have ht : m < ts.length := by omega
  unfold halfA
  rw [List.set_append_right _ _ (by simp; omega)]
  simp only [List.length_map, List.length_take, show min m ts.length = m by omega, Nat.sub_self]
  rw [List.drop_eq_getElem_cons h, List.set_cons_zero, List.take_succ_eq_append_getElem ht, List.map_append]
  simp [tv, ht]
set_option maxRecDepth 100000 in
set_option maxHeartbeats 1000000 in
theorem toStrs_any (v : Value) (ts : List ByteArray) (w : World) (hv : Reads w v ts) (hl : ts.length ≤ 1048576) :
    Calls Tryz.prog 50 #[v] w fun e w' => ∃ v', e = .returned v' ∧ w'.ownsRow w.heap.size 9 1 v' ts.length (ts.map Value.string) ∧ Below w.heap.size w w' := by
  obtain ⟨i0, hi, hz0, hz1, hz2⟩ := info_parts Tryz.info9
  obtain ⟨a, ca, rfl, hca⟩ := hv.form
  have HC : Hid (∀ i, i < ts.length → ∃ b off, a = some ⟨b, off, none⟩ ∧ b < w.heap.size ∧ w.cell? ⟨b, off + i, none⟩ = some (.string (tv ts i))) := hca
  obtain ⟨M, hM⟩ : ∃ M, M = madeCells (Value.string ⟨#[]⟩).cells (((ts.length : Nat) : Int).toNat * i0.size) := ⟨_, rfl⟩
  have hMs : M.size = ts.length := by rw [hM, size_madeCells, hz1]; simp
  have hMv : ∀ j, j < ts.length → M[j]? = some (.string ⟨#[]⟩) := fun j hj => by
    rw [hM, hz1]; simp [madeCells, Value.cells, hj, Nat.mod_one]
  have hmk : ∀ W : World, (Instr.makeSlice 23 (.int .i64 (ts.length : Int)) (.int .i64 (ts.length : Int))).run Tryz.prog W = .ok (.slice (some ⟨W.heap.size, 0, none⟩) ts.length ts.length) (W.alloc (.cells M 9)) := fun W => by
    have h := run_make (P := Tryz.prog) W 23 9 i0 (.string ⟨#[]⟩) Tryz.underlying23 hi hz0 .i64 .i64 (ts.length : Int) (ts.length : Int) (by omega) (by omega) (by rw [hz2]; omega) (by omega)
    rw [← hM] at h
    simpa using h
  clear hM hca hv
  have HMV := hid hMv
  clear hMv
  have ho : (w.alloc (.cells M 9)).ownsRow w.heap.size 9 1 (.slice (some ⟨w.heap.size, 0, none⟩) ts.length ts.length) ts.length (halfA 0 ts M.toList) := by
    have := World.ownsRow_lit (base := w.heap.size) (e := 9) (size := 1) w M ts.length (Nat.le_refl _) (by unfold maxLen; omega) (by omega)
    simpa [halfA] using this
  have HO := hid ho
  clear ho
  go_enter Tryz.func50, Tryz.ntmps50
  go_wp2
  go_loopw [4] (fun i' wr => ∃ i : Nat, i ≤ ts.length ∧ i' = .int .i64 i ∧ wr.ownsRow w.heap.size 9 1 (.slice (some ⟨w.heap.size, 0, none⟩) ts.length ts.length) ts.length (halfA i ts M.toList) ∧ Below w.heap.size w wr) (fun i' _ => ts.length - (intOf i').toNat)
  case atStart => exact ⟨0, Nat.zero_le _, rfl, HO.out, (Below.refl _ _).alloc (Nat.le_refl _) _⟩
  case round =>
    obtain ⟨i, hil, rfl, hr, hb⟩ := hrel
    by_cases hlt : i < ts.length
    · obtain ⟨b, o, rfl, hbw, hc⟩ := HC.out i hlt
      have hc1 := (hb.cell (p := ⟨b, o + i, none⟩) hbw).trans hc
      have hc2 := (hr.cellAt i (by omega)).trans ((halfA_get i ts M.toList (by simp; omega) (by simp; omega)).trans ((by simp : M.toList[i]? = M[i]?).trans (HMV.out i hlt)))
      have hf2 := hr.frozenAt i
      have HX := hid (halfA_set i ts M.toList (by simp; omega) (by simp; omega))
      generalize tv ts i = t at *
      clear hc
      go_wp2
      have hst := (hr.stored i (.string t)).1
      rw [HX.out] at hst
      refine ⟨⟨i + 1, by omega, by go_num, hst, hb.setCell (p := ⟨w.heap.size, i, none⟩) (Nat.le_refl _) _⟩, by simp [intOf]; omega⟩
    · obtain rfl : i = ts.length := by omega
      go_wp2
      go_ret
      refine ⟨_, rfl, ?_, hb⟩
      have e : halfA ts.length ts M.toList = ts.map Value.string := by
        unfold halfA; rw [List.drop_of_length_le (by simp; omega)]; simp
      rw [e] at hr; exact hr
end Go.Proofs.YtlnkhbnbcmllaaaGreat
