/- l1Open and DrawShared. -/
import Derived.Test.YtgbaipidnjaekaaDoorNear
namespace Go.Proofs.YtgbaipidnjaekaaDoor
open Go.RowKit
/-- A slice of bytes that came in. -/
def BytesIn (w : World) (a : Option Addr) (n cap : Nat) (zs : List Int) : Prop :=
  n ≤ cap ∧ zs.length = n ∧ (∀ i, 0 ≤ zs.getD i 0 ∧ zs.getD i 0 ≤ 255) ∧
    ∀ i, i < n → ∃ b off, a = some ⟨b, off, none⟩ ∧ b < w.heap.size ∧ w.cell? ⟨b, off + i, none⟩ = some (.int .u8 (zs.getD i 0))
theorem take_getD (zs : List Int) (m i : Nat) : (zs.take m).getD i 0 = if i < m then zs.getD i 0 else 0 := by
  simp only [List.getD_eq_getElem?_getD, List.getElem?_take]
  split <;> rfl
set_option maxRecDepth 100000 in
set_option maxHeartbeats 1000000 in
theorem l1Open_any (a : Option Addr) (n cap : Nat) (zs : List Int) (w : World) (h : BytesIn w a n cap zs) (hn : n ≤ maxLen) :
    Calls Tryd.prog 38 #[.slice a n cap] w fun e w' => e = .returned (.pointer (some ⟨w.heap.size, 0, none⟩)) ∧ ∃ nn bs, Rd w' w.heap.size a nn cap bs 0 ∧ Below w.heap.size w w' := by
  obtain ⟨hnc, hl, hb, hc⟩ := h
  have fin : ∀ nn : Nat, nn ≤ n → nn ≤ 2000 → ∃ nn' bs, Rd (w.alloc (.cells #[.slice a nn cap, .int .i64 0] 89)) w.heap.size a nn' cap bs 0 ∧ Below w.heap.size w (w.alloc (.cells #[.slice a nn cap, .int .i64 0] 89)) := by
    intro nn h1 h2
    refine ⟨nn, zs.take nn, ⟨World.alloc_heap_new w _, by simp; omega, h2, fun i => ?_, fun i hi => ?_⟩, (Below.refl _ _).alloc (Nat.le_refl _) _⟩
    · rw [take_getD]; split
      · exact hb i
      · omega
    · obtain ⟨b, off, e, hlt, hcell⟩ := hc i (by omega)
      refine ⟨b, off, e, hlt, ?_⟩
      rw [take_getD, if_pos hi]
      exact (((Below.refl _ w).alloc (Nat.le_refl _) _).cell (p := ⟨b, off + i, none⟩) hlt).trans hcell
  unfold maxLen at hn
  by_cases h2 : 2000 < n
  · obtain ⟨b, off, rfl, hlt, hcell⟩ := hc 0 (by omega)
    have hn2 : (2000 : Int) < (n : Int) := by omega
    have hcap : (2000 : Int) ≤ (cap : Int) := by omega
    clear hc
    go_enter Tryd.func38, Tryd.ntmps38
    go_wp2
    go_ret
    exact ⟨rfl, fin 2000 (by omega) (Nat.le_refl _)⟩
  · have hn2 : ¬ ((2000 : Int) < (n : Int)) := by omega
    clear hc
    go_enter Tryd.func38, Tryd.ntmps38
    go_wp2
    go_ret
    obtain ⟨nn', bs, f1, f2⟩ := fin n (Nat.le_refl _) (by omega)
    first | exact ⟨rfl, ⟨nn', bs, f1⟩, f2⟩ | exact ⟨rfl, nn', bs, f1, f2⟩
set_option maxRecDepth 100000 in
set_option maxHeartbeats 1000000 in
theorem drawShared_any (a : Option Addr) (n cap : Nat) (zs : List Int) (w : World) (h : BytesIn w a n cap zs) (hn : n ≤ maxLen) :
    Calls Tryd.prog 14 #[.slice a n cap] w fun e w' => ∃ s t : ByteArray, e = .returned (.tuple #[.string s, .string t]) ∧ s.size ≤ 3000 ∧ t.size ≤ 7000 ∧ Below w.heap.size w w' := by
  go_enter Tryd.func14, Tryd.ntmps14
  go_wp2_with fail
  refine (l1Open_any a n cap zs _ h hn).mono ?_
  rintro e w1 ⟨rfl, nn, bs, hr1, hb1⟩
  have HR1 := hid hr1
  clear hr1
  go_wp2_with fail
  refine (l2Thing_any w.heap.size a nn cap bs 0 _ HR1.out (by omega)).mono ?_
  rintro e w2 ⟨s, rfl, hs, p2, hp2, hr2, hb2⟩
  have HR2 := hid hr2
  clear hr2
  go_wp2_with fail
  refine (l2Near_any w.heap.size a nn cap bs p2 s _ HR2.out (by omega) hs).mono ?_
  rintro e w3 ⟨t, rfl, ht, p3, hp3, hr3, hb3⟩
  go_wp2
  go_ret2
  exact ⟨s, t, rfl, hs, ht, hb1.trans (hb2.trans hb3)⟩
end Go.Proofs.YtgbaipidnjaekaaDoor
