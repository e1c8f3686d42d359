/- l1Open. -/
import Derived.Test.YtooodilbehnnfaaDoorThing
namespace Go.Proofs.YtooodilbehnnfaaDoor
open Go.RowKit
/-- A slice of bytes that came in. -/
def BytesIn (w : World) (a : Option Addr) (n cap : Nat) (zs : List Int) : Prop :=
  n ≤ cap ∧ zs.length = n ∧ (∀ i, 0 ≤ zs.getD i 0 ∧ zs.getD i 0 ≤ 255) ∧
    ∀ i, i < n → ∃ b off, a = some ⟨b, off, none⟩ ∧ b < w.heap.size ∧ w.cell? ⟨b, off + i, none⟩ = some (.int .u8 (zs.getD i 0))
theorem take_getD (zs : List Int) (m i : Nat) : (zs.take m).getD i 0 = if i < m then zs.getD i 0 else 0 := by
  simp only [List.getD_eq_getElem?_getD, List.getElem?_take]
  split <;> rfl
set_option maxRecDepth 100000 in
set_option maxHeartbeats 1000000 in
theorem l1Open_any (a : Option Addr) (n cap : Nat) (zs : List Int) (w : World) (h : BytesIn w a n cap zs) (hn : n ≤ maxLen) :
    Calls Tryd.prog 33 #[.slice a n cap] w fun e w' => e = .returned (.pointer (some ⟨w.heap.size, 0, none⟩)) ∧ ∃ nn bs, Rd w' w.heap.size a nn cap bs 0 ∧ Below w.heap.size w w' := by
  obtain ⟨hnc, hl, hb, hc⟩ := h
  have fin : ∀ nn : Nat, nn ≤ n → nn ≤ 2000 → ∃ nn' bs, Rd (w.alloc (.cells #[.slice a nn cap, .int .i64 0] 79)) w.heap.size a nn' cap bs 0 ∧ Below w.heap.size w (w.alloc (.cells #[.slice a nn cap, .int .i64 0] 79)) := by
    intro nn h1 h2
    refine ⟨nn, zs.take nn, ⟨World.alloc_heap_new w _, by simp; omega, h2, fun i => ?_, fun i hi => ?_⟩, (Below.refl _ _).alloc (Nat.le_refl _) _⟩
    · rw [take_getD]; split
      · exact hb i
      · omega
    · obtain ⟨b, off, e, hlt, hcell⟩ := hc i (by omega)
      refine ⟨b, off, e, hlt, ?_⟩
      rw [take_getD, if_pos hi]
      exact (((Below.refl _ w).alloc (Nat.le_refl _) _).cell (p := ⟨b, off + i, none⟩) hlt).trans hcell
  unfold maxLen at hn
  by_cases h2 : 2000 < n
  · obtain ⟨b, off, rfl, hlt, hcell⟩ := hc 0 (by omega)
    have hn2 : (2000 : Int) < (n : Int) := by omega
    have hcap : (2000 : Int) ≤ (cap : Int) := by omega
    clear hc
    go_enter Tryd.func33, Tryd.ntmps33
    go_wp2
    go_ret
    exact ⟨rfl, fin 2000 (by omega) (Nat.le_refl _)⟩
  · have hn2 : ¬ ((2000 : Int) < (n : Int)) := by omega
    clear hc
    go_enter Tryd.func33, Tryd.ntmps33
    go_wp2
    go_ret
    obtain ⟨nn', bs, f1, f2⟩ := fin n (Nat.le_refl _) (by omega)
    first | exact ⟨rfl, ⟨nn', bs, f1⟩, f2⟩ | exact ⟨rfl, nn', bs, f1, f2⟩
end Go.Proofs.YtooodilbehnnfaaDoor
