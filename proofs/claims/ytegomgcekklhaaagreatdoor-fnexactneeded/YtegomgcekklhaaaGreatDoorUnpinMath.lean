import Derived.Shelf.Slices.Cells
import Derived.Test.YtegomgcekklhaaaGreatDoorGetLaw
import Derived.Test.YtegomgcekklhaaaGreatDoorSearchJoin
/- slices.Delete of one text; (*shelf).unpin. -/
namespace Go.Proofs.YtegomgcekklhaaaGreatDoor
open Go.RowKit Go.Shelf
theorem grown_setCells (b : Nat) : ∀ (vs : List Value) (o : Nat) (w : World), w.grownBy (w.setCells b o vs) (some b)
  | [], _, w => grown_refl2 w _
  | v :: vs, o, w => grown_same (grownBy_setCellAt w b o v) (grown_setCells b vs (o + 1) _)
end Go.Proofs.YtegomgcekklhaaaGreatDoor
/- (*shelf).unpin, (*shelf).answer. -/
namespace Go.Proofs.YtegomgcekklhaaaGreatDoor
open Go.RowKit
theorem asc_get {ts : List ByteArray} (h : Asc ts) {i j : Nat} (hij : i < j) (hj : j < ts.length) : tlt (tv ts i) (tv ts j) = true := by
  have := List.pairwise_iff_getElem.1 h i j (by omega) hj hij
  have hi : i < ts.length := by omega
  simpa [tv, hi, hj] using this
/-- Where a text of an ascending list stands. -/
theorem cut_at {ts : List ByteArray} (h : Asc ts) {x : ByteArray} {i : Nat} (hi : i < ts.length) (hx : tv ts i = x) : cutN x ts = i := by
  rcases Nat.lt_trichotomy (cutN x ts) i with hl | hl | hl
  · have h1 := cut_above x ts h (cutN x ts) (Nat.le_refl _) (by omega)
    have h2 := asc_get h hl hi
    rw [hx, h1] at h2
    cases h2
  · exact hl
  · have h1 := cut_below x ts i hl
    rw [hx, tlt_irrefl] at h1
    cases h1
/-- What unpin leaves. -/
def UnpRes (w : World) (sb mb m : Nat) (D : DataW Unit) (wd room tot : Int) (vc : Value) (ts : List ByteArray) (name : ByteArray) (e : Ending) (w' : World) : Prop :=
  (e = .returned (.int .i64 1) ∧ ¬ ((name.size : Int) = wd) ∧ Below w.heap.size w w') ∨
  (e = .returned (.int .i64 2) ∧ (name.size : Int) = wd ∧ (∀ i, i < ts.length → tv ts i ≠ name) ∧ Below w.heap.size w w') ∨
  (e = .returned (.int .i64 0) ∧ (name.size : Int) = wd ∧ ∃ i vc', i < ts.length ∧ tv ts i = name ∧ Blk w' sb 71 #[.int .i64 wd, .int .i64 room, .int .i64 tot, .map (some mb), vc'] ∧ Reads w' vc' (ts.eraseIdx i) ∧ w'.ownsMap Tryz.prog 9 itemElem mb m D ∧ w.heap.size ≤ w'.heap.size ∧ ∀ B', B' ≤ sb → (∀ g, vc.ownBlock = some g → B' ≤ g) → B' ≤ w.heap.size → Below B' w w')
end Go.Proofs.YtegomgcekklhaaaGreatDoor
/- impl.Unpin. -/
namespace Go.Proofs.YtegomgcekklhaaaGreatDoor
open Go.RowKit
/-- What Unpin answers. -/
def UnpinR (wd room : Int) (its : Itms) (ts : List ByteArray) (name : ByteArray) (wd' room' : Int) (its' : Itms) (ts' : List ByteArray) (code : Int) : Prop :=
  (¬ (ValidSt wd room its ts ∧ (name.size : Int) = wd) ∧ wd' = 0 ∧ room' = 0 ∧ its' = [] ∧ ts' = [] ∧ code = 1) ∨
  ((ValidSt wd room its ts ∧ (name.size : Int) = wd) ∧ (∀ i, i < ts.length → tv ts i ≠ name) ∧ wd' = 0 ∧ room' = 0 ∧ its' = [] ∧ ts' = [] ∧ code = 2) ∨
  ((ValidSt wd room its ts ∧ (name.size : Int) = wd) ∧ wd' = wd ∧ room' = room ∧ its' = its ∧ code = 0 ∧ ∃ i, i < ts.length ∧ tv ts i = name ∧ ts' = ts.eraseIdx i)
end Go.Proofs.YtegomgcekklhaaaGreatDoor
/- spec.Unpin: left out. -/
namespace Go.Proofs.YtegomgcekklhaaaGreatDoor
open Go.RowKit
def offL (name : ByteArray) (ts : List ByteArray) : List ByteArray := ts.filter fun t => !(t.toList == name.toList)
theorem off_step (name : ByteArray) (ts : List ByteArray) (k : Nat) (h : k < ts.length) : offL name (ts.take (k + 1)) = if (tv ts k).toList == name.toList then offL name (ts.take k) else offL name (ts.take k) ++ [tv ts k] := by
  have e : tv ts k = ts[k] := by simp [tv, h]
  rw [e]
  unfold offL
  rw [List.take_succ_eq_append_getElem h, List.filter_append]
  cases g : (ts[k].toList == name.toList) <;> simp [g]
theorem off_none {name : ByteArray} {ts : List ByteArray} (h : ∀ i, i < ts.length → tv ts i ≠ name) : offL name ts = ts := by
  unfold offL
  refine List.filter_eq_self.2 fun t ht => ?_
  obtain ⟨i, hi, rfl⟩ := List.getElem_of_mem ht
  have h1 := h i hi
  have e : tv ts i = ts[i] := by simp [tv, hi]
  rw [e] at h1
  simp only [Bool.not_eq_true', beq_eq_false_iff_ne]
  exact fun e2 => h1 (text_eq e2)
theorem off_one {name : ByteArray} {ts : List ByteArray} (hA : Asc ts) {i : Nat} (hi : i < ts.length) (he : tv ts i = name) : offL name ts = ts.eraseIdx i := by
  have key : ∀ (ts : List ByteArray), Asc ts → ∀ i, i < ts.length → tv ts i = name → offL name ts = ts.eraseIdx i := by
    intro ts
    induction ts with
    | nil => intro _ i hi; simp at hi
    | cons a l ih =>
      intro hA i hi he
      cases i with
      | zero =>
        have ea : a = name := by simpa [tv] using he
        subst ea
        have : offL a l = l := by
          unfold offL
          refine List.filter_eq_self.2 fun t ht => ?_
          simp only [Bool.not_eq_true', beq_eq_false_iff_ne]
          intro e2
          have h1 := (List.pairwise_cons.1 hA).1 t ht
          rw [text_eq e2, tlt_irrefl] at h1
          cases h1
        unfold offL at this ⊢
        simp [this]
      | succ i =>
        have hi' : i < l.length := by simpa using hi
        have he' : tv l i = name := by simpa [tv] using he
        have h1 := ih (List.pairwise_cons.1 hA).2 i hi' he'
        have hne : (a.toList == name.toList) = false := by
          rw [beq_eq_false_iff_ne]
          intro e2
          have hm : tv l i ∈ l := by simp [tv, hi']
          have h2 := (List.pairwise_cons.1 hA).1 _ hm
          rw [he', text_eq e2, tlt_irrefl] at h2
          cases h2
        unfold offL at h1 ⊢
        simp [hne, h1]
  exact key ts hA i hi he
theorem offL_len (name : ByteArray) (ts : List ByteArray) : (offL name ts).length ≤ ts.length := List.length_filter_le _ _
end Go.Proofs.YtegomgcekklhaaaGreatDoor
