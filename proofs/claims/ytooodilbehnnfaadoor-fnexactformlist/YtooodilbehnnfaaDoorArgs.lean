/- The arguments of laws: how long they are; copies of them. -/
import Derived.Test.YtooodilbehnnfaaDoorListBox
import Derived.Laws.MakeOwn
namespace Go.Proofs.YtooodilbehnnfaaDoor
open Go.RowKit
def tv (ts : List ByteArray) (i : Nat) : ByteArray := ts.getD i ByteArray.empty
set_option maxRecDepth 100000 in
set_option maxHeartbeats 1000000 in
theorem szStrs_any (v : Value) (ts : List ByteArray) (L : Nat) (w : World) (hv : Reads w v ts) (hl : ts.length ≤ maxLen) (hsz : ∀ i, (tv ts i).size ≤ maxLen) (hL : L ≤ 1048576) :
    Calls Tryd.prog 17 #[v, .int .i64 L] w fun e w' => ∃ r : Int, e = .returned (.int .i64 r) ∧ r ≤ L ∧ (0 ≤ r → ts.length ≤ L ∧ ∀ i, (tv ts i).size ≤ L) ∧ w' = w := by
  unfold maxLen at hl
  obtain ⟨a, ca, rfl, hca⟩ := hv.form
  by_cases h1 : L < ts.length
  · have h1' : (L : Int) - (ts.length : Int) < 0 := by omega
    go_enter Tryd.func17, Tryd.ntmps17
    go_wp2
    go_ret
    exact ⟨-1, rfl, by omega, fun h => by omega, rfl⟩
  · have h1' : ¬ ((L : Int) - (ts.length : Int) < 0) := by omega
    have HC : Hid (∀ i, i < ts.length → ∃ b off, a = some ⟨b, off, none⟩ ∧ b < w.heap.size ∧ w.cell? ⟨b, off + i, none⟩ = some (.string (tv ts i))) := hca
    have HSZ := hid hsz
    clear hca hv hsz
    go_enter Tryd.func17, Tryd.ntmps17
    go_wp2
    go_loop [1, 5] (fun l' i' => ∃ l i : Nat, i ≤ ts.length ∧ i' = .int .i64 i ∧ l' = .int .i64 l ∧ l ≤ L ∧ ∀ k, k < i → (tv ts k).size ≤ L) (fun _ i' => ts.length - (intOf i').toNat)
    case atStart => exact ⟨L - ts.length, 0, Nat.zero_le _, rfl, by go_num, by omega, fun k hk => by omega⟩
    case round =>
      obtain ⟨l, i, hi, rfl, rfl, hll, hs⟩ := hrel
      have HS := hid hs
      clear hs
      by_cases hil : i < ts.length
      · obtain ⟨b, o, rfl, hb, hc⟩ := HC.out i hil
        have hz := HSZ.out i
        generalize hti : tv ts i = t at *
        have HTI := hid hti
        clear hti
        unfold maxLen at hz
        by_cases hlt : l < t.size
        · have hlt' : (l : Int) - (t.size : Int) < 0 := by omega
          go_wp2
          go_ret
          exact ⟨-1, rfl, by omega, fun h => by omega, rfl⟩
        · have hlt' : ¬ ((l : Int) - (t.size : Int) < 0) := by omega
          go_wp2
          go_round
          case rel => exact ⟨l - t.size, i + 1, by omega, by go_num, by go_num, by omega, fun k hk => (Nat.lt_or_eq_of_le (Nat.le_of_lt_succ hk)).elim (HS.out k) (fun e => by rw [e, HTI.out]; omega)⟩
          case measure => simp [intOf]; omega
      · obtain rfl : i = ts.length := by omega
        go_wp2
        go_ret
        refine ⟨_, rfl, by omega, fun _ => ⟨by omega, fun k => ?_⟩, rfl⟩
        by_cases hk : k < ts.length
        · exact HS.out k hk
        · have : tv ts k = ByteArray.empty := by simp [tv, hk]
          rw [this]; simp
/-- A row of which the first m strings have been copied. -/
def halfA (m : Nat) (ts : List ByteArray) (M : List Value) : List Value := (ts.take m).map Value.string ++ M.drop m
theorem halfA_get (m : Nat) (ts : List ByteArray) (M : List Value) (h : m < M.length) (hl : ts.length = M.length) : (halfA m ts M)[m]? = M[m]? := by
  simp [halfA, List.getElem?_append, show min m ts.length = m by omega]
theorem halfA_set (m : Nat) (ts : List ByteArray) (M : List Value) (h : m < M.length) (hl : ts.length = M.length) : (halfA m ts M).set m (.string (tv ts m)) = halfA (m + 1) ts M := by
  have ht : m < ts.length := by omega
  unfold halfA
  rw [List.set_append_right _ _ (by simp; omega)]
  simp only [List.length_map, List.length_take, show min m ts.length = m by omega, Nat.sub_self]
  rw [List.drop_eq_getElem_cons h, List.set_cons_zero, List.take_succ_eq_append_getElem ht, List.map_append]
  simp [tv, ht]
set_option maxRecDepth 100000 in
set_option maxHeartbeats 1000000 in
theorem toStrs_any (v : Value) (ts : List ByteArray) (w : World) (hv : Reads w v ts) (hl : ts.length ≤ 1048576) :
    Calls Tryd.prog 21 #[v] w fun e w' => ∃ v', e = .returned v' ∧ w'.ownsRow w.heap.size 9 1 v' ts.length (ts.map Value.string) ∧ Below w.heap.size w w' := by
  obtain ⟨i0, hi, hz0, hz1, hz2⟩ := info_parts Tryd.info9
  obtain ⟨a, ca, rfl, hca⟩ := hv.form
  have HC : Hid (∀ i, i < ts.length → ∃ b off, a = some ⟨b, off, none⟩ ∧ b < w.heap.size ∧ w.cell? ⟨b, off + i, none⟩ = some (.string (tv ts i))) := hca
  obtain ⟨M, hM⟩ : ∃ M, M = madeCells (Value.string ⟨#[]⟩).cells (((ts.length : Nat) : Int).toNat * i0.size) := ⟨_, rfl⟩
  have hMs : M.size = ts.length := by rw [hM, size_madeCells, hz1]; simp
  have hMv : ∀ j, j < ts.length → M[j]? = some (.string ⟨#[]⟩) := fun j hj => by
    rw [hM, hz1]; simp [madeCells, Value.cells, hj, Nat.mod_one]
  have hmk : ∀ W : World, (Instr.makeSlice 22 (.int .i64 (ts.length : Int)) (.int .i64 (ts.length : Int))).run Tryd.prog W = .ok (.slice (some ⟨W.heap.size, 0, none⟩) ts.length ts.length) (W.alloc (.cells M 9)) := fun W => by
    have h := run_make (P := Tryd.prog) W 22 9 i0 (.string ⟨#[]⟩) Tryd.underlying22 hi hz0 .i64 .i64 (ts.length : Int) (ts.length : Int) (by omega) (by omega) (by rw [hz2]; omega) (by omega)
    rw [← hM] at h
    simpa using h
  clear hM hca hv
  have HMV := hid hMv
  clear hMv
  have ho : (w.alloc (.cells M 9)).ownsRow w.heap.size 9 1 (.slice (some ⟨w.heap.size, 0, none⟩) ts.length ts.length) ts.length (halfA 0 ts M.toList) := by
    have := World.ownsRow_lit (base := w.heap.size) (e := 9) (size := 1) w M ts.length (Nat.le_refl _) (by unfold maxLen; omega) (by omega)
    simpa [halfA] using this
  have HO := hid ho
  clear ho
  go_enter Tryd.func21, Tryd.ntmps21
  go_wp2
  go_loopw [4] (fun i' wr => ∃ i : Nat, i ≤ ts.length ∧ i' = .int .i64 i ∧ wr.ownsRow w.heap.size 9 1 (.slice (some ⟨w.heap.size, 0, none⟩) ts.length ts.length) ts.length (halfA i ts M.toList) ∧ Below w.heap.size w wr) (fun i' _ => ts.length - (intOf i').toNat)
  case atStart => exact ⟨0, Nat.zero_le _, rfl, HO.out, (Below.refl _ _).alloc (Nat.le_refl _) _⟩
  case round =>
    obtain ⟨i, hil, rfl, hr, hb⟩ := hrel
    by_cases hlt : i < ts.length
    · obtain ⟨b, o, rfl, hbw, hc⟩ := HC.out i hlt
      have hc1 := (hb.cell (p := ⟨b, o + i, none⟩) hbw).trans hc
      have hc2 := (hr.cellAt i (by omega)).trans ((halfA_get i ts M.toList (by simp; omega) (by simp; omega)).trans ((by simp : M.toList[i]? = M[i]?).trans (HMV.out i hlt)))
      have hf2 := hr.frozenAt i
      have HX := hid (halfA_set i ts M.toList (by simp; omega) (by simp; omega))
      generalize tv ts i = t at *
      clear hc
      go_wp2
      have hst := (hr.stored i (.string t)).1
      rw [HX.out] at hst
      refine ⟨⟨i + 1, by omega, by go_num, hst, hb.setCell (p := ⟨w.heap.size, i, none⟩) (Nat.le_refl _) _⟩, by simp [intOf]; omega⟩
    · obtain rfl : i = ts.length := by omega
      go_wp2
      go_ret
      refine ⟨_, rfl, ?_, hb⟩
      have e : halfA ts.length ts M.toList = ts.map Value.string := by
        unfold halfA; rw [List.drop_of_length_le (by simp; omega)]; simp
      rw [e] at hr; exact hr
/-- A list as the laws have it. -/
def ABox (W : World) (b : Nat) (n : Int) (v : Value) : Prop := W.heap[b]? = some (.cells #[.int .i64 n, v] 24 (0, 0))
theorem ABox.lt {W : World} {b : Nat} {n : Int} {v : Value} (h : ABox W b n v) : b < W.heap.size := (Array.getElem?_eq_some_iff.1 h).1
theorem ABox.c0 {W : World} {b : Nat} {n : Int} {v : Value} (h : ABox W b n v) : W.cell? ⟨b, 0, none⟩ = some (.int .i64 n) := by simp [World.cell?, show W.heap[b]? = _ from h]
theorem ABox.c1 {W : World} {b : Nat} {n : Int} {v : Value} (h : ABox W b n v) : W.cell? ⟨b, 1, none⟩ = some v := by simp [World.cell?, show W.heap[b]? = _ from h]
theorem ABox.below {W W' : World} {b : Nat} {n : Int} {v : Value} (h : ABox W b n v) (hb : Below W.heap.size W W') : ABox W' b n v := (hb.block b h.lt).trans h
set_option maxRecDepth 100000 in
set_option maxHeartbeats 400000 in
theorem szList_any (n : Int) (v : Value) (ts : List ByteArray) (w : World) (hv : Reads w v ts) (hl : ts.length ≤ maxLen) (hsz : ∀ i, (tv ts i).size ≤ maxLen) :
    Calls Tryd.prog 6 #[.agg #[.int .i64 n, v], .int .i64 1048576] w fun e w' => ∃ r : Int, e = .returned (.int .i64 r) ∧ r ≤ 1048576 ∧ (0 ≤ r → ts.length ≤ 1048576 ∧ ∀ i, (tv ts i).size ≤ 1048576) ∧ Below w.heap.size w w' := by
  have hbl := (Below.refl w.heap.size w).alloc (Nat.le_refl _) (.cells #[.int .i64 n, v] 24)
  have HZ := hid (szStrs_any v ts 1048576 _ (hv.below hbl) hl hsz (by omega))
  obtain ⟨a, ca, rfl, _⟩ := hv.form
  have HBL := hid hbl
  clear hbl hv
  go_enter Tryd.func6, Tryd.ntmps6
  go_wp2_with fail
  refine HZ.out.mono ?_
  rintro e w1 ⟨r, rfl, hr, hr2, rfl⟩
  have HR2 := hid hr2
  clear hr2
  by_cases h0 : r < 0
  · go_wp2
    go_ret
    exact ⟨-1, rfl, by omega, fun h => by omega, HBL.out⟩
  · go_wp2
    go_ret
    exact ⟨r, rfl, hr, HR2.out, HBL.out⟩
set_option maxRecDepth 100000 in
set_option maxHeartbeats 400000 in
theorem toList_any (n : Int) (v : Value) (ts : List ByteArray) (w : World) (hv : Reads w v ts) (hl : ts.length ≤ 1048576) :
    Calls Tryd.prog 8 #[.agg #[.int .i64 n, v]] w fun e w' => ∃ v', e = .returned (.agg #[.int .i64 n, v']) ∧ w'.ownsRow w.heap.size 9 1 v' ts.length (ts.map Value.string) ∧ Below w.heap.size w w' := by
  have hbl := (((Below.refl w.heap.size w).alloc (Nat.le_refl _) (.cells #[.int .i64 n, v] 24)).alloc (by simp) (.cells #[.int .i64 0, .slice none 0 0] 27)).alloc (by simp; omega) (.cells #[.int .i64 n, .slice none 0 0] 27)
  have HT := hid (toStrs_any v ts _ (hv.below hbl) hl)
  obtain ⟨a, ca, rfl, _⟩ := hv.form
  have HBL := hid hbl
  clear hbl hv
  go_enter Tryd.func8, Tryd.ntmps8
  go_wp2_with fail
  refine HT.out.mono ?_
  rintro e w1 ⟨v1, rfl, hr1, hb1⟩
  obtain ⟨a1, c1, rfl, _⟩ := row_form hr1
  have hn3 : LBox (((w.alloc (.cells #[.int .i64 n, .slice a ts.length ca] 24)).alloc (.cells #[.int .i64 0, .slice none 0 0] 27)).alloc (.cells #[.int .i64 n, .slice none 0 0] 27)) (w.heap.size + 1 + 1) n (.slice none 0 0) := by
    have := World.alloc_heap_new ((w.alloc (.cells #[.int .i64 n, .slice a ts.length ca] 24)).alloc (.cells #[.int .i64 0, .slice none 0 0] 27)) (.cells #[.int .i64 n, .slice none 0 0] 27)
    rwa [World.size_alloc, World.size_alloc] at this
  have hn2 : LBox ((w.alloc (.cells #[.int .i64 n, .slice a ts.length ca] 24)).alloc (.cells #[.int .i64 0, .slice none 0 0] 27)) (w.heap.size + 1) 0 (.slice none 0 0) := by
    have := World.alloc_heap_new (w.alloc (.cells #[.int .i64 n, .slice a ts.length ca] 24)) (.cells #[.int .i64 0, .slice none 0 0] 27)
    rwa [World.size_alloc] at this
  have x3 := hn3.below hb1
  have x2 := (hn2.alloc (.cells #[.int .i64 n, .slice none 0 0] 27)).below hb1
  have y3 := x3.set1 (.slice a1 ts.length c1)
  have g3 := grownBy_setCellAt w1 (w.heap.size + 1 + 1) 1 (.slice a1 ts.length c1)
  have y2 := x2.kept g3 (fun e => by simp at e)
  have z2 := y2.set0 n
  have p1 := x3.c1
  have p2 := x3.fz 1
  have p3 := y3.c0
  have p4 := y3.c1
  have p5 := y2.c0
  have p6 := y2.fz 0
  have p7 := z2.c1
  have p8 := z2.fz 1
  have g2 := grownBy_setCellAt (w1.setCell ⟨w.heap.size + 1 + 1, 1, none⟩ (.slice a1 ts.length c1)) (w.heap.size + 1) 0 (.int .i64 n)
  have g1 := grownBy_setCellAt ((w1.setCell ⟨w.heap.size + 1 + 1, 1, none⟩ (.slice a1 ts.length c1)).setCell ⟨w.heap.size + 1, 0, none⟩ (.int .i64 n)) (w.heap.size + 1) 1 (.slice a1 ts.length c1)
  have hr4 := row_kept (row_kept (row_kept hr1 g3 (by simp)) g2 (by simp)) g1 (by simp)
  have hb4 := (((HBL.out.trans (hb1.mono (by simp; omega))).setCell (p := ⟨w.heap.size + 1 + 1, 1, none⟩) (by simp; omega) (.slice a1 ts.length c1)).setCell (p := ⟨w.heap.size + 1, 0, none⟩) (by simp) (.int .i64 n)).setCell (p := ⟨w.heap.size + 1, 1, none⟩) (by simp) (.slice a1 ts.length c1)
  have HR4 := hid hr4
  have HB4 := hid hb4
  have q0 := (z2.set1 (.slice a1 ts.length c1)).c0
  have q1 := (z2.set1 (.slice a1 ts.length c1)).c1
  clear hn3 hn2 x3 x2 y3 y2 z2 g3 g2 g1 hr4 hb4 hr1 hb1 HBL HT
  go_wp2
  refine bodyPost_ret (v := .agg #[.int .i64 n, .slice a1 ts.length c1]) (by simp [results, Tryd.results8, go_sem, q0, q1]) rfl ⟨_, rfl, ownsRow_base HR4.out (by simp; omega), HB4.out⟩
end Go.Proofs.YtooodilbehnnfaaDoor
