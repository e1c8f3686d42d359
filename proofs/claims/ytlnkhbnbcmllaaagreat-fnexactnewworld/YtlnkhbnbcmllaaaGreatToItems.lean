import Derived.Test.YtlnkhbnbcmllaaaGreatArgs
import Derived.Laws.MakeOwn
/- A block whose cells are known: stores into it, one after another. -/
namespace Go.Proofs.YtlnkhbnbcmllaaaGreat
open Go.RowKit
def Blk (W : World) (b : Nat) (T : TypeId) (cs : Array Value) : Prop := W.heap[b]? = some (.cells cs T (0, 0))
theorem Blk.lt {W : World} {b : Nat} {T : TypeId} {cs : Array Value} (h : Blk W b T cs) : b < W.heap.size := (Array.getElem?_eq_some_iff.1 h).1
theorem Blk.cell {W : World} {b : Nat} {T : TypeId} {cs : Array Value} (h : Blk W b T cs) (i : Nat) : W.cell? ⟨b, i, none⟩ = cs[i]? := by simp [World.cell?, show W.heap[b]? = _ from h]
theorem Blk.fz {W : World} {b : Nat} {T : TypeId} {cs : Array Value} (h : Blk W b T cs) (k : Nat) : W.frozen? ⟨b, k, none⟩ = false := by simp [World.frozen?, show W.heap[b]? = _ from h]
theorem Blk.below {W W' : World} {b : Nat} {T : TypeId} {cs : Array Value} (h : Blk W b T cs) (hb : Below W.heap.size W W') : Blk W' b T cs := (hb.block b h.lt).trans h
theorem Blk.kept {W W' : World} {row : Option Nat} {b : Nat} {T : TypeId} {cs : Array Value} (h : Blk W b T cs) (hg : W.grownBy W' row) (hne : some b ≠ row) : Blk W' b T cs := (hg.block b h.lt hne).trans h
theorem Blk.alloc {W : World} {b : Nat} {T : TypeId} {cs : Array Value} (h : Blk W b T cs) (o : Obj) : Blk (W.alloc o) b T cs := h.kept (World.grownBy_alloc W o none) (by simp)
theorem Blk.new (W : World) (T : TypeId) (cs : Array Value) : Blk (W.alloc (.cells cs T)) W.heap.size T cs := World.alloc_heap_new W _
theorem Blk.set {W : World} {b : Nat} {T : TypeId} {cs : Array Value} (h : Blk W b T cs) (i : Nat) (v : Value) : Blk (W.setCell ⟨b, i, none⟩ v) b T (cs.setIfInBounds i v) := by
  obtain ⟨hlt, hk⟩ := Array.getElem?_eq_some_iff.1 h
  show (W.heap.modify b _)[b]? = _
  rw [Array.getElem?_eq_getElem (by rw [Array.size_modify]; exact hlt), Array.getElem_modify_self, hk]
  rfl
end Go.Proofs.YtlnkhbnbcmllaaaGreat
/- Rows of items: two cells an item. -/
namespace Go.Proofs.YtlnkhbnbcmllaaaGreat
open Go.RowKit
abbrev Itms := List (ByteArray × Int)
def itx (its : Itms) (i : Nat) : ByteArray := (its.getD i (ByteArray.empty, 0)).1
def itu (its : Itms) (i : Nat) : Int := (its.getD i (ByteArray.empty, 0)).2
/-- A slice that reads as a list of items. -/
def RdI (w : World) (v : Value) (its : Itms) : Prop :=
  ∃ a cap, v = .slice a its.length cap ∧ ∀ i, i < its.length → ∃ b off, a = some ⟨b, off, none⟩ ∧ b < w.heap.size ∧ w.cell? ⟨b, off + i * 2, none⟩ = some (.string (itx its i)) ∧ w.cell? ⟨b, off + i * 2 + 1, none⟩ = some (.int .i64 (itu its i))
theorem RdI.below {w w' : World} {v : Value} {its : Itms} (h : RdI w v its) (hb : Below w.heap.size w w') : RdI w' v its := by
  obtain ⟨a, cap, e, hc⟩ := h
  refine ⟨a, cap, e, fun i hi => ?_⟩
  obtain ⟨b, off, ha, hl, h1, h2⟩ := hc i hi
  exact ⟨b, off, ha, Nat.lt_of_lt_of_le hl hb.size, (hb.cell (p := ⟨b, off + i * 2, none⟩) hl).trans h1, (hb.cell (p := ⟨b, off + i * 2 + 1, none⟩) hl).trans h2⟩
set_option maxRecDepth 100000 in
set_option maxHeartbeats 400000 in
theorem szItem_any (t : ByteArray) (u : Int) (L : Nat) (w : World) (ht : t.size ≤ maxLen) (hL : L ≤ 1048576) :
    Calls Tryz.prog 69 #[.agg #[.string t, .int .i64 u], .int .i64 L] w fun e w' => ∃ r : Int, e = .returned (.int .i64 r) ∧ (if L < t.size then r = -1 else r = ((L - t.size : Nat) : Int)) ∧ Below w.heap.size w w' := by
  unfold maxLen at ht
  by_cases h1 : L < t.size
  · have h1' : (L : Int) - (t.size : Int) < 0 := by omega
    go_enter Tryz.func69, Tryz.ntmps69
    go_wp2
    go_ret
    exact ⟨-1, rfl, rfl, (Below.refl _ _).alloc (Nat.le_refl _) _⟩
  · have h1' : ¬ ((L : Int) - (t.size : Int) < 0) := by omega
    go_enter Tryz.func69, Tryz.ntmps69
    go_wp2
    go_ret
    exact ⟨_, rfl, by omega, (Below.refl _ _).alloc (Nat.le_refl _) _⟩
end Go.Proofs.YtlnkhbnbcmllaaaGreat
/- Copies of items, in rows of their own. -/
namespace Go.Proofs.YtlnkhbnbcmllaaaGreat
open Go.RowKit
def cellsI (its : Itms) : List Value := its.flatMap fun p => [Value.string p.1, Value.int .i64 p.2]
theorem cellsI_len : ∀ its : Itms, (cellsI its).length = its.length * 2
  | [] => rfl
  | p :: r => by
    have := cellsI_len r
    simp only [cellsI, List.flatMap_cons, List.length_append, List.length_cons, List.length_nil] at this ⊢
    omega
theorem cellsI_at : ∀ (its : Itms) (i : Nat), i < its.length → (cellsI its)[i * 2]? = some (.string (itx its i)) ∧ (cellsI its)[i * 2 + 1]? = some (.int .i64 (itu its i))
  | [], i, h => absurd h (by simp)
  | p :: r, 0, _ => by simp [cellsI, itx, itu]
  | p :: r, i + 1, h => by
    have ih := cellsI_at r i (by simpa using h)
    have e : (i + 1) * 2 = i * 2 + 1 + 1 := by omega
    rw [e]
    simpa [cellsI, itx, itu] using ih
theorem cellsI_take (its : Itms) (m : Nat) (h : m < its.length) : cellsI (its.take (m + 1)) = cellsI (its.take m) ++ [.string (itx its m), .int .i64 (itu its m)] := by
  unfold cellsI
  rw [List.take_succ_eq_append_getElem h, List.flatMap_append]
  simp [itx, itu, h]
/-- A row of which the first m items have been copied. -/
def rowI (m : Nat) (its : Itms) (M : List Value) : List Value := cellsI (its.take m) ++ M.drop (m * 2)
theorem rowI_len {m : Nat} {its : Itms} (h : m ≤ its.length) : (cellsI (its.take m)).length = m * 2 := by rw [cellsI_len, List.length_take]; omega
theorem rowI_get (m : Nat) (its : Itms) (M : List Value) (j : Nat) (h : m ≤ its.length) : (rowI m its M)[m * 2 + j]? = M[m * 2 + j]? := by
  have := rowI_len h
  unfold rowI
  rw [List.getElem?_append_right (by omega), this, List.getElem?_drop]
  congr 1
  omega
theorem rowI_set (m : Nat) (its : Itms) (M : List Value) (h : m < its.length) (hM : M.length = its.length * 2) : ((rowI m its M).set (m * 2) (.string (itx its m))).set (m * 2 + 1) (.int .i64 (itu its m)) = rowI (m + 1) its M := by
  have hl := rowI_len (show m ≤ its.length by omega)
  unfold rowI
  rw [cellsI_take its m h]
  have e2 : M.drop (m * 2) = M[m * 2]'(by omega) :: M[m * 2 + 1]'(by omega) :: M.drop ((m + 1) * 2) := by
    rw [List.drop_eq_getElem_cons (by omega), List.drop_eq_getElem_cons (by omega), show m * 2 + 1 + 1 = (m + 1) * 2 by omega]
  rw [e2, List.set_append_right _ _ (by omega), hl, Nat.sub_self, List.set_cons_zero, List.set_append_right _ _ (by omega), hl, show m * 2 + 1 - m * 2 = 1 by omega, List.set_cons_succ, List.set_cons_zero]
  simp
/-- A slice that is a row of items of its own. -/
def OwnI (w : World) (base : Nat) (v : Value) (its : Itms) : Prop :=
  ∃ g, v = .slice (some ⟨g, 0, none⟩) its.length its.length ∧ base ≤ g ∧ Blk w g 84 (cellsI its).toArray
theorem OwnI.below {w w' : World} {base : Nat} {v : Value} {its : Itms} (h : OwnI w base v its) (hb : Below w.heap.size w w') : OwnI w' base v its := by
  obtain ⟨g, e, hg, hk⟩ := h
  exact ⟨g, e, hg, hk.below hb⟩
theorem OwnI.base {w : World} {base b' : Nat} {v : Value} {its : Itms} (h : OwnI w base v its) (hb : b' ≤ base) : OwnI w b' v its := by
  obtain ⟨g, e, hg, hk⟩ := h
  exact ⟨g, e, Nat.le_trans hb hg, hk⟩
theorem OwnI.rdi {w : World} {base : Nat} {v : Value} {its : Itms} (h : OwnI w base v its) : RdI w v its := by
  obtain ⟨g, e, hg, hk⟩ := h
  refine ⟨_, _, e, fun i hi => ⟨g, 0, rfl, hk.lt, ?_, ?_⟩⟩
  · rw [Nat.zero_add, hk.cell]; simpa using (cellsI_at its i hi).1
  · rw [Nat.zero_add, hk.cell]; simpa using (cellsI_at its i hi).2
set_option maxRecDepth 100000 in
set_option maxHeartbeats 400000 in
theorem toItem_any (t : ByteArray) (u : Int) (w : World) :
    Calls Tryz.prog 72 #[.agg #[.string t, .int .i64 u]] w fun e w' => e = .returned (.agg #[.string t, .int .i64 u]) ∧ Below w.heap.size w w' := by
  go_enter Tryz.func72, Tryz.ntmps72
  go_wp2
  refine bodyPost_ret (v := .agg #[.string t, .int .i64 u]) (by simp [results, Tryz.results72, go_sem]) rfl ⟨rfl, ?_⟩
  exact (((Below.refl _ _).alloc (Nat.le_refl _) _).alloc (by simp) _).alloc (by simp; omega) _
theorem Tryz.infoItem : (Tryz.prog.info? 84).map (fun i => (i.zero, i.size, i.bytes)) = some (some (.agg #[.string ⟨#[]⟩, .int .i64 0]), 2, 24) := by kernel_rfl
set_option maxRecDepth 100000 in
set_option maxHeartbeats 1000000 in
theorem toItemS_any (v : Value) (its : Itms) (w : World) (hv : RdI w v its) (hl : its.length ≤ 1048576) :
    Calls Tryz.prog 49 #[v] w fun e w' => ∃ v', e = .returned v' ∧ OwnI w' w.heap.size v' its ∧ Below w.heap.size w w' := by
  obtain ⟨i0, hi, hz0, hz1, hz2⟩ := info_parts Tryz.infoItem
  obtain ⟨a, ca, rfl, hca⟩ := hv
  have HC := hid hca
  obtain ⟨M, hM⟩ : ∃ M, M = madeCells (Value.agg #[.string ⟨#[]⟩, .int .i64 0]).cells (((its.length : Nat) : Int).toNat * i0.size) := ⟨_, rfl⟩
  have hMs : M.size = its.length * 2 := by rw [hM, size_madeCells, hz1]; simp
  have hMv : ∀ j, j < its.length → (∃ x, M[j * 2]? = some x) ∧ ∃ y, M[j * 2 + 1]? = some y := fun j hj => ⟨⟨_, Array.getElem?_eq_getElem (by omega)⟩, ⟨_, Array.getElem?_eq_getElem (by omega)⟩⟩
  have hmk : ∀ W : World, (Instr.makeSlice 32 (.int .i64 (its.length : Int)) (.int .i64 (its.length : Int))).run Tryz.prog W = .ok (.slice (some ⟨W.heap.size, 0, none⟩) its.length its.length) (W.alloc (.cells M 84)) := fun W => by
    have h := run_make (P := Tryz.prog) W 32 84 i0 (.agg #[.string ⟨#[]⟩, .int .i64 0]) Tryz.underlying32 hi hz0 .i64 .i64 (its.length : Int) (its.length : Int) (by omega) (by omega) (by rw [hz2]; omega) (by omega)
    rw [← hM] at h
    simpa using h
  clear hM hca
  have HMV := hid hMv
  clear hMv
  have HO := hid (Blk.new w 84 M)
  have HMS := hid hMs
  have HTI := hid fun t u W => toItem_any t u W
  go_enter Tryz.func49, Tryz.ntmps49
  go_wp2
  go_loopw [4] (fun i' wr => ∃ i : Nat, i ≤ its.length ∧ i' = .int .i64 i ∧ Blk wr w.heap.size 84 (rowI i its M.toList).toArray ∧ Below w.heap.size w wr) (fun i' _ => its.length - (intOf i').toNat)
  case atStart => exact ⟨0, Nat.zero_le _, rfl, by simpa [rowI, cellsI] using HO.out, (Below.refl _ _).alloc (Nat.le_refl _) _⟩
  case round =>
    obtain ⟨i, hil, rfl, hr, hb⟩ := hrel
    by_cases hlt : i < its.length
    · obtain ⟨b, o, rfl, hbw, hc1, hc2⟩ := HC.out i hlt
      have hd1 := (hb.cell (p := ⟨b, o + i * 2, none⟩) hbw).trans hc1
      have hd2 := (hb.cell (p := ⟨b, o + i * 2 + 1, none⟩) hbw).trans hc2
      obtain ⟨⟨x, hx⟩, ⟨y, hy⟩⟩ := HMV.out i hlt
      have hgx := rowI_get i its M.toList 0 (by omega)
      have hgy := rowI_get i its M.toList 1 (by omega)
      rw [Nat.add_zero] at hgx
      have hgx' : (rowI i its M.toList)[i * 2]? = some x := hgx.trans (by simpa using hx)
      have hgy' : (rowI i its M.toList)[i * 2 + 1]? = some y := hgy.trans (by simpa using hy)
      have hset := rowI_set i its M.toList hlt (by simpa using hMs)
      generalize itx its i = t at *
      generalize itu its i = u at *
      have HR := hid hr
      have HB := hid hb
      have HSET := hid hset
      have HGY := hid hgy'
      clear hc1 hc2 hr hb hx hy hgx hgy hset hgy'
      go_wp2_with fail
      refine (HTI.out t u _).mono ?_
      rintro e w1 ⟨rfl, hb1⟩
      have R1 := HR.out.below hb1
      have B1 := HB.out.trans (hb1.mono HB.out.size)
      have e1 : w1.cell? ⟨w.heap.size, i * 2, none⟩ = some x := (R1.cell (i * 2)).trans (by simpa using hgx')
      have e2 := R1.fz (i * 2)
      have R2 := R1.set (i * 2) (.string t)
      have e3 : (w1.setCell ⟨w.heap.size, i * 2, none⟩ (.string t)).cell? ⟨w.heap.size, i * 2 + 1, none⟩ = some y := (R2.cell (i * 2 + 1)).trans (by
        rw [List.setIfInBounds_toArray, List.getElem?_toArray, List.getElem?_set_ne (by omega)]; exact HGY.out)
      have e4 := R2.fz (i * 2 + 1)
      have R3 := hid (R2.set (i * 2 + 1) (.int .i64 u))
      have B3 := hid ((B1.setCell (p := ⟨w.heap.size, i * 2, none⟩) (Nat.le_refl _) (.string t)).setCell (p := ⟨w.heap.size, i * 2 + 1, none⟩) (Nat.le_refl _) (.int .i64 u))
      clear R1 R2 B1 hb1 hgx'
      go_wp2
      refine ⟨⟨i + 1, by omega, by go_num, ?_, B3.out⟩, by simp [intOf]; omega⟩
      have := R3.out
      rw [List.setIfInBounds_toArray, List.setIfInBounds_toArray, HSET.out] at this
      exact this
    · obtain rfl : i = its.length := by omega
      have e : rowI its.length its M.toList = cellsI its := by
        unfold rowI; rw [List.drop_of_length_le (by simp; omega)]; simp
      rw [e] at hr
      go_wp2
      go_ret
      exact ⟨_, rfl, ⟨_, rfl, Nat.le_refl _, hr⟩, hb⟩
end Go.Proofs.YtlnkhbnbcmllaaaGreat
