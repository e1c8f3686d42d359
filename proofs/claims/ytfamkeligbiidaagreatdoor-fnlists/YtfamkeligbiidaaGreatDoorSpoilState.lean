/- What holds while l3Spoil lasts. -/
import Derived.Test.YtfamkeligbiidaaGreatDoorSpoilParts
namespace Go.Proofs.YtfamkeligbiidaaGreatDoor
open Go.RowKit
theorem LBox.grown {W W' : World} {b : Nat} {n : Int} {v : Value} {o : Option Nat} (h : LBox W b n v) (hg : W.grownBy W' o) (hne : o ≠ some b) : LBox W' b n v := h.kept hg (fun e => hne e.symm)
theorem str_one (ps : List ByteArray) : ∀ u ∈ ps.map Value.string, u.oneCell' = true := by
  intro u hu
  obtain ⟨p, _, rfl⟩ := List.mem_map.1 hu
  rfl
theorem Rd.grown2 {w w' : World} {rb : Nat} {a : Option Addr} {nn cap : Nat} {bs : List Int} {p b : Nat} (h : Rd w rb a nn cap bs p) (hg : w.grownBy w' (some b)) (hb : rb < b) : Rd w' rb a nn cap bs p :=
  h.keep ⟨hg.os, hg.tape, hg.output, hg.size, fun k hk => by
    have hlt := h.lt
    exact hg.block k (by omega) (fun e => by cases e; omega)⟩
/-- What holds while l3Spoil lasts. -/
structure Spo (w W : World) (rb : Nat) (a : Option Addr) (nn cap : Nat) (bs : List Int) (p : Nat) (b5 : Nat) (n n0 : Int) (v v0 : Value) (ss : List ByteArray) : Prop where
  rd : Rd W rb a nn cap bs p
  box : LBox W b5 n v
  arg : LBox W w.heap.size n0 v0
  res : LBox W (w.heap.size + 1) 0 (.slice none 0 0)
  row : W.ownsRow (w.heap.size + 2) 9 1 v ss.length (ss.map Value.string)
  gr : w.grownBy W (some rb)
  ge : w.heap.size + 2 ≤ b5
  lo : rb < w.heap.size
theorem Spo.step {w W W' : World} {rb : Nat} {a : Option Addr} {nn cap : Nat} {bs : List Int} {p p' b5 : Nat} {n n0 : Int} {v v0 : Value} {ss : List ByteArray} (h : Spo w W rb a nn cap bs p b5 n n0 v v0 ss) (hr : Rd W' rb a nn cap bs p') (hg : W.grownBy W' (some rb)) : Spo w W' rb a nn cap bs p' b5 n n0 v v0 ss where
  rd := hr
  box := h.box.grown hg (by have := box_rd_ne h.rd h.box; simpa using fun e => this e.symm)
  arg := h.arg.grown hg (by have := box_rd_ne h.rd h.arg; simpa using fun e => this e.symm)
  res := h.res.grown hg (by have := box_rd_ne h.rd h.res; simpa using fun e => this e.symm)
  row := h.row.kept hg (.inr (row_rd_ne h.rd h.row))
  gr := grown_pick h.gr hg
  ge := h.ge
  lo := h.lo
theorem Spo.alloc {w W : World} {rb : Nat} {a : Option Addr} {nn cap : Nat} {bs : List Int} {p b5 : Nat} {n n0 : Int} {v v0 : Value} {ss : List ByteArray} (h : Spo w W rb a nn cap bs p b5 n n0 v v0 ss) (o : Obj) : Spo w (W.alloc o) rb a nn cap bs p b5 n n0 v v0 ss where
  rd := h.rd.keep ((Below.refl (rb + 1) W).alloc h.rd.lt o)
  box := h.box.alloc o
  arg := h.arg.alloc o
  res := h.res.alloc o
  row := h.row.alloc o
  gr := grown_alloc h.gr o
  ge := h.ge
  lo := h.lo
theorem Spo.drew {w W : World} {rb : Nat} {a : Option Addr} {nn cap : Nat} {bs : List Int} {p b5 : Nat} {n n0 : Int} {v v0 : Value} {ss : List ByteArray} (h : Spo w W rb a nn cap bs p b5 n n0 v v0 ss) : Spo w W.drew rb a nn cap bs p b5 n n0 v v0 ss where
  rd := h.rd
  box := h.box
  arg := h.arg
  res := h.res
  row := h.row
  gr := grown_drew h.gr
  ge := h.ge
  lo := h.lo
/-- The size set anew. -/
theorem Spo.size {w W : World} {rb : Nat} {a : Option Addr} {nn cap : Nat} {bs : List Int} {p b5 : Nat} {n n0 : Int} {v v0 : Value} {ss : List ByteArray} (h : Spo w W rb a nn cap bs p b5 n n0 v v0 ss) (z : Int) : Spo w (W.setCell ⟨b5, 0, none⟩ (.int .i64 z)) rb a nn cap bs p b5 z n0 v v0 ss := by
  have hg := grownBy_setCellAt W b5 0 (.int .i64 z)
  have hge := h.ge
  have hlo := h.lo
  refine ⟨?_, LBox.set0 z h.box, h.arg.grown hg (by simp; omega), h.res.grown hg (by simp; omega), h.row.kept hg (.inr (row_box_ne h.box h.row)), ?_, hge, hlo⟩
  · exact h.rd.grown2 hg (by omega)
  · exact grownBy_trans h.gr hg (fun g e => .inr (by cases e; omega))
/-- A row that has been appended to, and stored. -/
theorem Spo.append {w W W1 : World} {rb : Nat} {a : Option Addr} {nn cap : Nat} {bs : List Int} {p b5 : Nat} {n n0 : Int} {v v0 v' : Value} {ss ss' : List ByteArray} (h : Spo w W rb a nn cap bs p b5 n n0 v v0 ss) (hg : W.grownBy W1 v.ownBlock) (hr : W1.ownsRow (w.heap.size + 2) 9 1 v' ss'.length (ss'.map Value.string)) : LBox W1 b5 n v ∧ Spo w (W1.setCell ⟨b5, 1, none⟩ v') rb a nn cap bs p b5 n n0 v' v0 ss' := by
  have hge := h.ge
  have nb := row_box_ne h.box h.row
  have na := row_box_ne h.arg h.row
  have ns := row_box_ne h.res h.row
  have hlo := h.lo
  have box1 := h.box.grown hg nb
  have hg2 := grownBy_setCellAt W1 b5 1 v'
  have rd1 : Rd W1 rb a nn cap bs p := by
    rcases hv : v.ownBlock with _ | g
    · rw [hv] at hg
      exact h.rd.keep ⟨hg.os, hg.tape, hg.output, hg.size, fun k hk => hg.block k (by have := h.rd.lt; omega) (by simp)⟩
    · rw [hv] at hg
      exact h.rd.grown2 hg (by have := (h.row.lt g hv).1; have := h.lo; omega)
  refine ⟨box1, rd1.grown2 hg2 (by omega), box1.set1 v', (h.arg.grown hg na).grown hg2 (by simp; omega), (h.res.grown hg ns).grown hg2 (by simp; omega), hr.kept hg2 (.inr (row_box_ne box1 hr)), ?_, hge, hlo⟩
  refine grownBy_trans (grownBy_trans h.gr hg (fun g e => .inr ?_)) hg2 (fun g e => .inr (by cases e; omega))
  have := (h.row.lt g e).1
  omega
theorem reads_drop2 {w : World} {g c : Nat} {P : List ByteArray} (i : Nat) (hg : g < w.heap.size) (hc : ∀ j, j < P.length → w.cell? ⟨g, j, none⟩ = some (.string (P.getD j ByteArray.empty))) :
    Reads w (.slice (some ⟨g, i, none⟩) (P.length - i) c) (P.drop i) := by
  by_cases h : P.length ≤ i
  · have e : P.drop i = [] := List.drop_eq_nil_of_le h
    rw [e, show P.length - i = 0 by omega]
    exact .inl ⟨rfl, _, _, rfl⟩
  · refine .inr ⟨g, i, c, by rw [List.length_drop], hg, fun j hj => ?_⟩
    rw [List.length_drop] at hj
    rw [hc (i + j) (by omega)]
    simp [List.getD_eq_getElem?_getD, List.getElem?_drop]
/-- What is handed out. -/
theorem Spo.fin {w W : World} {rb : Nat} {a : Option Addr} {nn cap : Nat} {bs : List Int} {p b5 : Nat} {n n0 : Int} {v v0 : Value} {ss : List ByteArray} (h : Spo w W rb a nn cap bs p b5 n n0 v v0 ss) (m : Int) (u : Value) : ((W.setCell ⟨w.heap.size + 1, 0, none⟩ (.int .i64 m)).setCell ⟨w.heap.size + 1, 1, none⟩ u).ownsRow (w.heap.size + 2) 9 1 v ss.length (ss.map Value.string) ∧ w.grownBy ((W.setCell ⟨w.heap.size + 1, 0, none⟩ (.int .i64 m)).setCell ⟨w.heap.size + 1, 1, none⟩ u) (some rb) := by
  have g1 := grownBy_setCellAt W (w.heap.size + 1) 0 (.int .i64 m)
  have g2 := grownBy_setCellAt (W.setCell ⟨w.heap.size + 1, 0, none⟩ (.int .i64 m)) (w.heap.size + 1) 1 u
  have hn := row_box_ne h.res h.row
  exact ⟨(h.row.kept g1 (.inr hn)).kept g2 (.inr hn), grownBy_trans (grownBy_trans h.gr g1 (fun g e => .inr (by cases e; omega))) g2 (fun g e => .inr (by cases e; omega))⟩
/-- The first sum set to another. -/
theorem Spo.put0 {w W : World} {rb : Nat} {a : Option Addr} {nn cap : Nat} {bs : List Int} {p b5 g c5 : Nat} {n n0 : Int} {v0 : Value} {ss : List ByteArray} (h : Spo w W rb a nn cap bs p b5 n n0 (.slice (some ⟨g, 0, none⟩) ss.length c5) v0 ss) (s : ByteArray) : Spo w (W.setCell ⟨g, 0, none⟩ (.string s)) rb a nn cap bs p b5 n n0 (.slice (some ⟨g, 0, none⟩) (ss.set 0 s).length c5) v0 (ss.set 0 s) := by
  have hg := grownBy_setCellAt W g 0 (.string s)
  have hge := h.ge
  have hlo := h.lo
  have hgl := (h.row.lt g rfl).1
  have nb := row_box_ne h.box h.row
  have na := row_box_ne h.arg h.row
  have ns := row_box_ne h.res h.row
  have hst := (h.row.stored 0 (.string s)).1
  refine ⟨h.rd.grown2 hg (by omega), ?_, h.arg.grown hg na, h.res.grown hg ns, ?_, grownBy_trans h.gr hg (fun g e => .inr (by cases e; omega)), hge, hlo⟩
  · rw [List.length_set]; exact h.box.grown hg nb
  · rw [List.length_set]
    have e : (ss.map Value.string).set 0 (.string s) = (ss.set 0 s).map Value.string := by rw [List.map_set]
    rw [e] at hst
    exact hst
def boxLen (W : World) (b : Nat) : Nat := match W.cell? ⟨b, 1, none⟩ with
  | some (.slice _ n _) => n
  | _ => 0
theorem boxLen_of {W : World} {b : Nat} {n : Int} {a : Option Addr} {k c : Nat} (h : LBox W b n (.slice a k c)) : boxLen W b = k := by
  unfold boxLen
  rw [h.c1]
theorem five_new2 (w : World) (a b c d e : Int) {x : Nat} (hx : x < 5) : ∃ z : Int, (w.alloc (.cells #[.int .i64 a, .int .i64 b, .int .i64 c, .int .i64 d, .int .i64 e] 3)).cell? ⟨w.heap.size, x, none⟩ = some (.int .i64 z) := by
  rw [cellOf (World.alloc_heap_new w _)]
  obtain rfl | rfl | rfl | rfl | rfl : x = 0 ∨ x = 1 ∨ x = 2 ∨ x = 3 ∨ x = 4 := by omega
  · exact ⟨a, rfl⟩
  · exact ⟨b, rfl⟩
  · exact ⟨c, rfl⟩
  · exact ⟨d, rfl⟩
  · exact ⟨e, rfl⟩
theorem five_kept2 {w w4 : World} {a b c d e : Int} {rb x : Nat} (hg : (w.alloc (.cells #[.int .i64 a, .int .i64 b, .int .i64 c, .int .i64 d, .int .i64 e] 3)).drew.grownBy w4 (some rb)) (hr : rb < w.heap.size) (hx : x < 5) : ∃ z : Int, w4.cell? ⟨w.heap.size, x, none⟩ = some (.int .i64 z) :=
  let ⟨z, hz⟩ := five_new2 w a b c d e hx
  ⟨z, new_kept2 hg hr hz⟩
theorem three_new (w : World) {x : Nat} (hx : x < 3) : ∃ z : ByteArray, z.size ≤ 10 ∧ (w.alloc (.cells #[.string ⟨#[]⟩, .string ⟨#[120]⟩, .string ⟨#[49, 50, 51, 52, 53, 54, 55, 56]⟩] 9)).cell? ⟨w.heap.size, x, none⟩ = some (.string z) := by
  rw [cellOf (World.alloc_heap_new w _)]
  obtain rfl | rfl | rfl : x = 0 ∨ x = 1 ∨ x = 2 := by omega
  · exact ⟨_, by decide, rfl⟩
  · exact ⟨_, by decide, rfl⟩
  · exact ⟨_, by decide, rfl⟩
theorem row_capcells {W : World} {base g c : Nat} {ss : List ByteArray} (h : W.ownsRow base 9 1 (.slice (some ⟨g, 0, none⟩) ss.length c) ss.length (ss.map Value.string)) : ss.length ≤ c ∧ ∀ j, j < ss.length → W.cell? ⟨g, j, none⟩ = some (.string (ss.getD j ByteArray.empty)) := by
  refine ⟨?_, fun j hj => ?_⟩
  · rcases h with ⟨_, ⟨h1, _⟩ | ⟨g', cap, cur, h1, _, _, h2, _⟩⟩
    · simp at h1
    · simp only [Value.slice.injEq] at h1
      rw [h1.2.2]; exact h2
  · rw [h.cellAt j (by omega)]; simp [hj]
/-- Another row in the list. -/
theorem Spo.cut {w W : World} {rb : Nat} {a : Option Addr} {nn cap : Nat} {bs : List Int} {p b5 : Nat} {n n0 : Int} {v v0 : Value} {ss : List ByteArray} (h : Spo w W rb a nn cap bs p b5 n n0 v v0 ss) (u : Value) : LBox (W.setCell ⟨b5, 1, none⟩ u) b5 n u ∧ LBox (W.setCell ⟨b5, 1, none⟩ u) (w.heap.size + 1) 0 (.slice none 0 0) ∧ ∀ (m : Int) (u' : Value), (((W.setCell ⟨b5, 1, none⟩ u).setCell ⟨w.heap.size + 1, 0, none⟩ (.int .i64 m)).setCell ⟨w.heap.size + 1, 1, none⟩ u').ownsRow (w.heap.size + 2) 9 1 v ss.length (ss.map Value.string) ∧ w.grownBy (((W.setCell ⟨b5, 1, none⟩ u).setCell ⟨w.heap.size + 1, 0, none⟩ (.int .i64 m)).setCell ⟨w.heap.size + 1, 1, none⟩ u') (some rb) := by
  have hge := h.ge
  have g0 := grownBy_setCellAt W b5 1 u
  have hr := h.row.kept g0 (.inr (row_box_ne h.box h.row))
  have hres := h.res.grown g0 (by simp; omega)
  refine ⟨h.box.set1 u, hres, fun m u' => ?_⟩
  have g1 := grownBy_setCellAt (W.setCell ⟨b5, 1, none⟩ u) (w.heap.size + 1) 0 (.int .i64 m)
  have g2 := grownBy_setCellAt ((W.setCell ⟨b5, 1, none⟩ u).setCell ⟨w.heap.size + 1, 0, none⟩ (.int .i64 m)) (w.heap.size + 1) 1 u'
  have hn := row_box_ne hres hr
  exact ⟨(hr.kept g1 (.inr hn)).kept g2 (.inr hn), grownBy_trans (grownBy_trans (grownBy_trans h.gr g0 (fun g e => .inr (by cases e; omega))) g1 (fun g e => .inr (by cases e; omega))) g2 (fun g e => .inr (by cases e; omega))⟩
theorem three_kept {w w4 : World} {rb x : Nat} (hg : (w.drew.alloc (.cells #[.string ⟨#[]⟩, .string ⟨#[120]⟩, .string ⟨#[49, 50, 51, 52, 53, 54, 55, 56]⟩] 9)).grownBy w4 (some rb)) (hr : rb < w.heap.size) (hx : x < 3) : ∃ z : ByteArray, z.size ≤ 10 ∧ w4.cell? ⟨w.heap.size, x, none⟩ = some (.string z) := by
  obtain ⟨z, hz1, hz⟩ := three_new w.drew hx
  refine ⟨z, hz1, ?_⟩
  have e : w4.heap[w.heap.size]? = (w.drew.alloc (.cells #[.string ⟨#[]⟩, .string ⟨#[120]⟩, .string ⟨#[49, 50, 51, 52, 53, 54, 55, 56]⟩] 9)).heap[w.heap.size]? := hg.block w.heap.size (by show _ < (w.drew.alloc _).heap.size; simp) (fun e => by simp at e; omega)
  rw [← hz]
  unfold World.cell?
  rw [show w.drew.heap.size = w.heap.size from rfl, e]
theorem sizes_app {ss : List ByteArray} {z : ByteArray} (h : ∀ s ∈ ss, s.size ≤ 10000) (hz : z.size ≤ 10000) : ∀ s ∈ ss ++ [z], s.size ≤ 10000 := by
  intro s hs
  rcases List.mem_append.1 hs with h1 | h1
  · exact h s h1
  · simp only [List.mem_cons, List.not_mem_nil, or_false] at h1
    rw [h1]; exact hz
theorem Spo.room {w W : World} {rb : Nat} {a : Option Addr} {nn cap : Nat} {bs : List Int} {p b5 : Nat} {n n0 : Int} {v v0 : Value} {ss : List ByteArray} (h : Spo w W rb a nn cap bs p b5 n n0 v v0 ss) : w.heap.size + 2 ≤ W.heap.size := by
  have := h.ge
  have := h.box.lt
  omega
theorem one_new (W : World) (z : ByteArray) (B : Nat) (hB : W.heap.size = B) (j : Nat) (u : Value) (h : [Value.string z][j]? = some u) : (W.alloc (.cells #[.string z] 9)).cell? ((⟨B, 0, none⟩ : Addr).add j) = some u := by
  subst hB
  exact cell_one_new _ _ _ j u h
theorem held_three {P : Program} {ops : Array Oper} {Q : Exit → Act → World → Prop} {md : Region.Mode} {S : World → Prop} {fuel : Nat} {listed : Array Bool} {a : Act} {w : World} (i j k : Nat) (hr : Region.ready md ops listed = [i, j, k]) (h : wpOp P ops Q i (fun a' w' => S w' ∧ wpAnyH P md ops Q S fuel (listed.setIfInBounds i true) a' w') a w)
    (h' : wpOp P ops Q j (fun a' w' => S w' ∧ wpAnyH P md ops Q S fuel (listed.setIfInBounds j true) a' w') a w) (h'' : wpOp P ops Q k (fun a' w' => S w' ∧ wpAnyH P md ops Q S fuel (listed.setIfInBounds k true) a' w') a w) : wpAnyH P md ops Q S (fuel + 1) listed a w :=
  wpAnyH_all hr (by simp) (by
    intro l hl
    simp only [List.mem_cons, List.not_mem_nil, or_false] at hl
    rcases hl with rfl | rfl | rfl
    · exact h
    · exact h'
    · exact h'')
end Go.Proofs.YtfamkeligbiidaaGreatDoor
