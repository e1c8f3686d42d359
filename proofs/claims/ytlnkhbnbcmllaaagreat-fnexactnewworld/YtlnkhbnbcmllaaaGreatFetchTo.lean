/- Copies of peers and of fetches, in rows of their own. -/
import Derived.Test.YtlnkhbnbcmllaaaGreatFetchOwn
import Derived.Laws.MakeOwn
namespace Go.Proofs.YtlnkhbnbcmllaaaGreat
open Go.RowKit
/-- A block of five cells, all of them stored anew. -/
structure Store5 (u : World) (b : Nat) (c0 c1 c2 c3 c4 d0 d1 d2 d3 d4 : Value) : Prop where
  a0 : u.cell? ⟨b, 0, none⟩ = some c0
  f0 : u.frozen? ⟨b, 0, none⟩ = false
  a1 : (u.setCell ⟨b, 0, none⟩ d0).cell? ⟨b, 1, none⟩ = some c1
  f1 : (u.setCell ⟨b, 0, none⟩ d0).frozen? ⟨b, 1, none⟩ = false
  a2 : ((u.setCell ⟨b, 0, none⟩ d0).setCell ⟨b, 1, none⟩ d1).cell? ⟨b, 2, none⟩ = some c2
  f2 : ((u.setCell ⟨b, 0, none⟩ d0).setCell ⟨b, 1, none⟩ d1).frozen? ⟨b, 2, none⟩ = false
  a3 : (((u.setCell ⟨b, 0, none⟩ d0).setCell ⟨b, 1, none⟩ d1).setCell ⟨b, 2, none⟩ d2).cell? ⟨b, 3, none⟩ = some c3
  f3 : (((u.setCell ⟨b, 0, none⟩ d0).setCell ⟨b, 1, none⟩ d1).setCell ⟨b, 2, none⟩ d2).frozen? ⟨b, 3, none⟩ = false
  a4 : ((((u.setCell ⟨b, 0, none⟩ d0).setCell ⟨b, 1, none⟩ d1).setCell ⟨b, 2, none⟩ d2).setCell ⟨b, 3, none⟩ d3).cell? ⟨b, 4, none⟩ = some c4
  f4 : ((((u.setCell ⟨b, 0, none⟩ d0).setCell ⟨b, 1, none⟩ d1).setCell ⟨b, 2, none⟩ d2).setCell ⟨b, 3, none⟩ d3).frozen? ⟨b, 4, none⟩ = false
def set5 (u : World) (b : Nat) (d0 d1 d2 d3 d4 : Value) : World := (((((u.setCell ⟨b, 0, none⟩ d0).setCell ⟨b, 1, none⟩ d1).setCell ⟨b, 2, none⟩ d2).setCell ⟨b, 3, none⟩ d3).setCell ⟨b, 4, none⟩ d4)
theorem set5_def (u : World) (b : Nat) (d0 d1 d2 d3 d4 : Value) : (((((u.setCell ⟨b, 0, none⟩ d0).setCell ⟨b, 1, none⟩ d1).setCell ⟨b, 2, none⟩ d2).setCell ⟨b, 3, none⟩ d3).setCell ⟨b, 4, none⟩ d4) = set5 u b d0 d1 d2 d3 d4 := rfl
theorem Blk.store5 {u : World} {b : Nat} {T : TypeId} {c0 c1 c2 c3 c4 : Value} (h : Blk u b T #[c0, c1, c2, c3, c4]) (d0 d1 d2 d3 d4 : Value) : Store5 u b c0 c1 c2 c3 c4 d0 d1 d2 d3 d4 := by
  have h1 : Blk (u.setCell ⟨b, 0, none⟩ d0) b T #[d0, c1, c2, c3, c4] := h.set 0 d0
  have h2 : Blk ((u.setCell ⟨b, 0, none⟩ d0).setCell ⟨b, 1, none⟩ d1) b T #[d0, d1, c2, c3, c4] := h1.set 1 d1
  have h3 : Blk (((u.setCell ⟨b, 0, none⟩ d0).setCell ⟨b, 1, none⟩ d1).setCell ⟨b, 2, none⟩ d2) b T #[d0, d1, d2, c3, c4] := h2.set 2 d2
  have h4 : Blk ((((u.setCell ⟨b, 0, none⟩ d0).setCell ⟨b, 1, none⟩ d1).setCell ⟨b, 2, none⟩ d2).setCell ⟨b, 3, none⟩ d3) b T #[d0, d1, d2, d3, c4] := h3.set 3 d3
  exact ⟨h.cell 0, h.fz 0, h1.cell 1, h1.fz 1, h2.cell 2, h2.fz 2, h3.cell 3, h3.fz 3, h4.cell 4, h4.fz 4⟩
theorem Blk.set5 {u : World} {b : Nat} {T : TypeId} {c0 c1 c2 c3 c4 : Value} (h : Blk u b T #[c0, c1, c2, c3, c4]) (d0 d1 d2 d3 d4 : Value) : Blk (set5 u b d0 d1 d2 d3 d4) b T #[d0, d1, d2, d3, d4] := by
  have h1 : Blk (u.setCell ⟨b, 0, none⟩ d0) b T #[d0, c1, c2, c3, c4] := h.set 0 d0
  have h2 : Blk ((u.setCell ⟨b, 0, none⟩ d0).setCell ⟨b, 1, none⟩ d1) b T #[d0, d1, c2, c3, c4] := h1.set 1 d1
  have h3 : Blk (((u.setCell ⟨b, 0, none⟩ d0).setCell ⟨b, 1, none⟩ d1).setCell ⟨b, 2, none⟩ d2) b T #[d0, d1, d2, c3, c4] := h2.set 2 d2
  have h4 : Blk ((((u.setCell ⟨b, 0, none⟩ d0).setCell ⟨b, 1, none⟩ d1).setCell ⟨b, 2, none⟩ d2).setCell ⟨b, 3, none⟩ d3) b T #[d0, d1, d2, d3, c4] := h3.set 3 d3
  exact h4.set 4 d4
theorem grown_set5 (u : World) (b : Nat) (d0 d1 d2 d3 d4 : Value) : u.grownBy (set5 u b d0 d1 d2 d3 d4) (some b) :=
  grown_same (grown_same (grown_same (grown_same (grownBy_setCellAt u b 0 d0) (grownBy_setCellAt _ b 1 d1)) (grownBy_setCellAt _ b 2 d2)) (grownBy_setCellAt _ b 3 d3)) (grownBy_setCellAt _ b 4 d4)
theorem below_set5 {B b : Nat} {w u : World} (h : Below B w u) (hb : B ≤ b) (hs : B ≤ w.heap.size) (d0 d1 d2 d3 d4 : Value) : Below B w (set5 u b d0 d1 d2 d3 d4) :=
  h.grown (grown_set5 u b d0 d1 d2 d3 d4) (Nat.le_trans hs h.size) (fun g e => by cases e; exact hb)
theorem cellsQ_snoc (qs : PV) (p : Pr) (v : Value) : cellsQ (qs ++ [(p, v)]) = cellsQ qs ++ [.int .i64 p.lies, .int .i64 p.wait, .int .i64 p.last, .string p.asked, v] := by
  unfold cellsQ
  rw [List.flatMap_append]
  simp
theorem rowQ_set (qs : PV) (M : List Value) (m : Nat) (hq : qs.length = m) (hM : (m + 1) * 5 ≤ M.length) (p : Pr) (v : Value) :
    (((((cellsQ qs ++ M.drop (m * 5)).set (m * 5) (.int .i64 p.lies)).set (m * 5 + 1) (.int .i64 p.wait)).set (m * 5 + 2) (.int .i64 p.last)).set (m * 5 + 3) (.string p.asked)).set (m * 5 + 4) v = cellsQ (qs ++ [(p, v)]) ++ M.drop ((m + 1) * 5) := by
  have hl : (cellsQ qs).length = m * 5 := by rw [cellsQ_len, hq]
  have e2 : M.drop (m * 5) = M[m * 5]'(by omega) :: M[m * 5 + 1]'(by omega) :: M[m * 5 + 2]'(by omega) :: M[m * 5 + 3]'(by omega) :: M[m * 5 + 4]'(by omega) :: M.drop ((m + 1) * 5) := by
    rw [List.drop_eq_getElem_cons (by omega), List.drop_eq_getElem_cons (by omega), List.drop_eq_getElem_cons (by omega), List.drop_eq_getElem_cons (by omega), List.drop_eq_getElem_cons (by omega), show m * 5 + 1 + 1 + 1 + 1 + 1 = (m + 1) * 5 by omega]
  rw [e2, cellsQ_snoc]
  rw [List.set_append_right _ _ (by omega), List.set_append_right _ _ (by omega), List.set_append_right _ _ (by omega), List.set_append_right _ _ (by omega), List.set_append_right _ _ (by omega), hl, Nat.sub_self, show m * 5 + 1 - m * 5 = 1 by omega, show m * 5 + 2 - m * 5 = 2 by omega, show m * 5 + 3 - m * 5 = 3 by omega, show m * 5 + 4 - m * 5 = 4 by omega]
  simp
theorem rowQ_get (qs : PV) (M : List Value) (m j : Nat) (hq : qs.length = m) : (cellsQ qs ++ M.drop (m * 5))[m * 5 + j]? = M[m * 5 + j]? := by
  have hl : (cellsQ qs).length = m * 5 := by rw [cellsQ_len, hq]
  rw [List.getElem?_append_right (by omega), hl, List.getElem?_drop]
  congr 1
  omega
set_option maxRecDepth 100000 in
set_option maxHeartbeats 1000000 in
theorem toPeer_any (a b c : Int) (s : ByteArray) (v : Value) (ts : List ByteArray) (w : World) (hv : Reads w v ts) (hl : ts.length ≤ 1048576) :
    Calls Tryz.prog 51 #[.agg #[.int .i64 a, .int .i64 b, .int .i64 c, .string s, v]] w fun e w' => ∃ v', e = .returned (.agg #[.int .i64 a, .int .i64 b, .int .i64 c, .string s, v']) ∧ w'.ownsRow (w.heap.size + 3) 9 1 v' ts.length (ts.map Value.string) ∧ Below w.heap.size w w' := by
  have hN1 := ((Blk.new w 78 #[.int .i64 a, .int .i64 b, .int .i64 c, .string s, v]).alloc (.cells #[.int .i64 0, .int .i64 0, .int .i64 0, .string ⟨#[]⟩, .slice none 0 0] 81)).alloc (.cells #[.int .i64 a, .int .i64 b, .int .i64 c, .string s, .slice none 0 0] 81)
  have hN2 := (Blk.new (w.alloc (.cells #[.int .i64 a, .int .i64 b, .int .i64 c, .string s, v] 78)) 81 #[.int .i64 0, .int .i64 0, .int .i64 0, .string ⟨#[]⟩, .slice none 0 0]).alloc (.cells #[.int .i64 a, .int .i64 b, .int .i64 c, .string s, .slice none 0 0] 81)
  have hN3 := Blk.new ((w.alloc (.cells #[.int .i64 a, .int .i64 b, .int .i64 c, .string s, v] 78)).alloc (.cells #[.int .i64 0, .int .i64 0, .int .i64 0, .string ⟨#[]⟩, .slice none 0 0] 81)) 81 #[.int .i64 a, .int .i64 b, .int .i64 c, .string s, .slice none 0 0]
  rw [World.size_alloc] at hN2
  rw [World.size_alloc, World.size_alloc] at hN3
  have hA := (((Below.refl w.heap.size w).alloc (Nat.le_refl _) (.cells #[.int .i64 a, .int .i64 b, .int .i64 c, .string s, v] 78)).alloc (by simp) (.cells #[.int .i64 0, .int .i64 0, .int .i64 0, .string ⟨#[]⟩, .slice none 0 0] 81)).alloc (by simp; omega) (.cells #[.int .i64 a, .int .i64 b, .int .i64 c, .string s, .slice none 0 0] 81)
  have HT := hid (toStrs_any v ts _ (hv.below hA) hl)
  obtain ⟨av, cv, rfl, _⟩ := hv.form
  have HN2 := hid hN2
  have HN3 := hid hN3
  have HA := hid hA
  clear hv hA hN1 hN2 hN3
  go_enter Tryz.func51, Tryz.ntmps51
  go_wp2_with fail
  refine HT.out.mono ?_
  rintro e w1 ⟨v1, rfl, ho1, hb1⟩
  have N2 := HN2.out.below hb1
  have N3 := HN3.out.below hb1
  have B1 := HA.out.trans (hb1.mono (by simp; omega))
  rw [World.size_alloc, World.size_alloc, World.size_alloc] at ho1
  obtain ⟨a1, c1, rfl, _⟩ := row_form ho1
  have x4 : w1.cell? ⟨w.heap.size + 1 + 1, 4, none⟩ = some (.slice none 0 0) := N3.cell 4
  have x5 := N3.fz 4
  have M3 := N3.set 4 (.slice a1 ts.length c1)
  have g1 := grownBy_setCellAt w1 (w.heap.size + 1 + 1) 4 (.slice a1 ts.length c1)
  have M2 := N2.kept g1 (fun e => by simp at e)
  have MO := row_kept ho1 g1 (by omega)
  have MB := B1.setCell (p := ⟨w.heap.size + 1 + 1, 4, none⟩) (by simp; omega) (.slice a1 ts.length c1)
  have l0 : (w1.setCell ⟨w.heap.size + 1 + 1, 4, none⟩ (.slice a1 ts.length c1)).cell? ⟨w.heap.size + 1 + 1, 0, none⟩ = some (.int .i64 a) := M3.cell 0
  have l1 : (w1.setCell ⟨w.heap.size + 1 + 1, 4, none⟩ (.slice a1 ts.length c1)).cell? ⟨w.heap.size + 1 + 1, 1, none⟩ = some (.int .i64 b) := M3.cell 1
  have l2 : (w1.setCell ⟨w.heap.size + 1 + 1, 4, none⟩ (.slice a1 ts.length c1)).cell? ⟨w.heap.size + 1 + 1, 2, none⟩ = some (.int .i64 c) := M3.cell 2
  have l3 : (w1.setCell ⟨w.heap.size + 1 + 1, 4, none⟩ (.slice a1 ts.length c1)).cell? ⟨w.heap.size + 1 + 1, 3, none⟩ = some (.string s) := M3.cell 3
  have l4 : (w1.setCell ⟨w.heap.size + 1 + 1, 4, none⟩ (.slice a1 ts.length c1)).cell? ⟨w.heap.size + 1 + 1, 4, none⟩ = some (.slice a1 ts.length c1) := M3.cell 4
  obtain ⟨q0, k0, q1, k1, q2, k2, q3, k3, q4, k4⟩ := M2.store5 (.int .i64 a) (.int .i64 b) (.int .i64 c) (.string s) (.slice a1 ts.length c1)
  have Z := hid (M2.set5 (.int .i64 a) (.int .i64 b) (.int .i64 c) (.string s) (.slice a1 ts.length c1))
  have BB := hid (below_set5 MB (b := w.heap.size + 1) (by omega) (Nat.le_refl _) (.int .i64 a) (.int .i64 b) (.int .i64 c) (.string s) (.slice a1 ts.length c1))
  have OO := hid (row_kept MO (grown_set5 _ (w.heap.size + 1) (.int .i64 a) (.int .i64 b) (.int .i64 c) (.string s) (.slice a1 ts.length c1)) (by omega))
  clear N2 N3 B1 g1 M2 M3 MO MB ho1 hb1
  go_wp2
  rw [set5_def]
  refine bodyPost_ret (v := .agg #[.int .i64 a, .int .i64 b, .int .i64 c, .string s, .slice a1 ts.length c1]) (by simp [results, Tryz.results51, go_sem, Z.out.cell]) rfl ⟨_, rfl, OO.out, BB.out⟩
end Go.Proofs.YtlnkhbnbcmllaaaGreat
