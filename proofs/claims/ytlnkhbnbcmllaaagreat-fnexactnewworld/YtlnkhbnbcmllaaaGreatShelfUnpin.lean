/- (*shelf).unpin, (*shelf).answer. -/
import Derived.Test.YtlnkhbnbcmllaaaGreatPinsDelete
namespace Go.Proofs.YtlnkhbnbcmllaaaGreat
open Go.RowKit
theorem asc_get {ts : List ByteArray} (h : Asc ts) {i j : Nat} (hij : i < j) (hj : j < ts.length) : tlt (tv ts i) (tv ts j) = true := by
  have := List.pairwise_iff_getElem.1 h i j (by omega) hj hij
  have hi : i < ts.length := by omega
  simpa [tv, hi, hj] using this
/-- Where a text of an ascending list stands. -/
theorem cut_at {ts : List ByteArray} (h : Asc ts) {x : ByteArray} {i : Nat} (hi : i < ts.length) (hx : tv ts i = x) : cutN x ts = i := by
  rcases Nat.lt_trichotomy (cutN x ts) i with hl | hl | hl
  · have h1 := cut_above x ts h (cutN x ts) (Nat.le_refl _) (by omega)
    have h2 := asc_get h hl hi
    rw [hx, h1] at h2
    cases h2
  · exact hl
  · have h1 := cut_below x ts i hl
    rw [hx, tlt_irrefl] at h1
    cases h1
/-- What unpin leaves. -/
def UnpRes (w : World) (sb mb m : Nat) (D : DataW Unit) (wd room tot : Int) (vc : Value) (ts : List ByteArray) (name : ByteArray) (e : Ending) (w' : World) : Prop :=
  (e = .returned (.int .i64 1) ∧ ¬ ((name.size : Int) = wd) ∧ Below w.heap.size w w') ∨
  (e = .returned (.int .i64 2) ∧ (name.size : Int) = wd ∧ (∀ i, i < ts.length → tv ts i ≠ name) ∧ Below w.heap.size w w') ∨
  (e = .returned (.int .i64 0) ∧ (name.size : Int) = wd ∧ ∃ i vc', i < ts.length ∧ tv ts i = name ∧ Blk w' sb 109 #[.int .i64 wd, .int .i64 room, .int .i64 tot, .map (some mb), vc'] ∧ Reads w' vc' (ts.eraseIdx i) ∧ w'.ownsMap Tryz.prog 9 itemElem mb m D ∧ w.heap.size ≤ w'.heap.size ∧ ∀ B', B' ≤ sb → (∀ g, vc.ownBlock = some g → B' ≤ g) → B' ≤ w.heap.size → Below B' w w')
end Go.Proofs.YtlnkhbnbcmllaaaGreat
