/- l1DrawWidth, DrawPieces, DrawDescribe. -/
import Derived.Test.YtfamkeligbiidaaGreatDoorOpen
import Derived.Deep.RegionWith
namespace Go.Proofs.YtfamkeligbiidaaGreatDoor
open Go.RowKit
theorem cellOf {w : World} {g k : Nat} {cs : Array Value} {t : TypeId} {fr : Nat × Nat} (h : w.heap[g]? = some (.cells cs t fr)) : w.cell? ⟨g, k, none⟩ = cs[k]? := by
  simp [World.cell?, h]
/-- A literal row of numbers: whichever is read is a number. -/
theorem six_new (w : World) (a b c d e f : Int) {x : Nat} (hx : x < 6) : ∃ z : Int, (w.alloc (.cells #[.int .i64 a, .int .i64 b, .int .i64 c, .int .i64 d, .int .i64 e, .int .i64 f] 3)).cell? ⟨w.heap.size, x, none⟩ = some (.int .i64 z) := by
  rw [cellOf (World.alloc_heap_new w _)]
  obtain rfl | rfl | rfl | rfl | rfl | rfl : x = 0 ∨ x = 1 ∨ x = 2 ∨ x = 3 ∨ x = 4 ∨ x = 5 := by omega
  · exact ⟨a, rfl⟩
  · exact ⟨b, rfl⟩
  · exact ⟨c, rfl⟩
  · exact ⟨d, rfl⟩
  · exact ⟨e, rfl⟩
  · exact ⟨f, rfl⟩
theorem two_new2 (w : World) (a b : Int) {x : Nat} (hx : x < 2) : ∃ z : Int, (w.alloc (.cells #[.int .i64 a, .int .i64 b] 3)).cell? ⟨w.heap.size, x, none⟩ = some (.int .i64 z) := by
  rw [cellOf (World.alloc_heap_new w _)]
  obtain rfl | rfl : x = 0 ∨ x = 1 := by omega
  · exact ⟨a, rfl⟩
  · exact ⟨b, rfl⟩
theorem new_kept2 {w w4 : World} {o : Obj} {rb x : Nat} {z : Int} (hg : (w.alloc o).drew.grownBy w4 (some rb)) (hr : rb < w.heap.size) (h : (w.alloc o).cell? ⟨w.heap.size, x, none⟩ = some (.int .i64 z)) : w4.cell? ⟨w.heap.size, x, none⟩ = some (.int .i64 z) := by
  have e : w4.heap[w.heap.size]? = (w.alloc o).heap[w.heap.size]? := hg.block w.heap.size (by show _ < (w.alloc o).heap.size; simp) (fun e => by simp at e; omega)
  rw [← h]
  unfold World.cell?
  rw [e]
theorem six_kept {w w4 : World} {a b c d e f : Int} {rb x : Nat} (hg : (w.alloc (.cells #[.int .i64 a, .int .i64 b, .int .i64 c, .int .i64 d, .int .i64 e, .int .i64 f] 3)).drew.grownBy w4 (some rb)) (hr : rb < w.heap.size) (hx : x < 6) : ∃ z : Int, w4.cell? ⟨w.heap.size, x, none⟩ = some (.int .i64 z) :=
  let ⟨z, hz⟩ := six_new w a b c d e f hx
  ⟨z, new_kept2 hg hr hz⟩
theorem two_kept2 {w w4 : World} {a b : Int} {rb x : Nat} (hg : (w.alloc (.cells #[.int .i64 a, .int .i64 b] 3)).drew.grownBy w4 (some rb)) (hr : rb < w.heap.size) (hx : x < 2) : ∃ z : Int, w4.cell? ⟨w.heap.size, x, none⟩ = some (.int .i64 z) :=
  let ⟨z, hz⟩ := two_new2 w a b hx
  ⟨z, new_kept2 hg hr hz⟩
set_option maxRecDepth 100000 in
set_option maxHeartbeats 2000000 in
theorem l1DrawWidth_any (rb : Nat) (a : Option Addr) (nn cap : Nat) (bs : List Int) (p : Nat) (w : World) (h : Rd w rb a nn cap bs p) (hp : p ≤ 800000) :
    Calls Tryz.prog 20 #[.pointer (some ⟨rb, 0, none⟩)] w fun e w' => ∃ z : Int, e = .returned (.int .i64 z) ∧ Rd w' rb a nn cap bs (p + 1) ∧ Below rb w w' := by
  have HP := hid fun (q : Nat) (n : Int) (W : World) (hr : Rd W rb a nn cap bs q) (h1 : 1 ≤ n) (h2 : n ≤ 100000) (hq : q ≤ 1000000) => pick_any rb a nn cap bs q n W hr h1 h2 hq
  have hlt := h.lt
  have HRA : Hid (Rd (w.alloc (.cells #[.int .i64 8, .int .i64 8, .int .i64 8, .int .i64 4, .int .i64 2, .int .i64 1] 3)) rb a nn cap bs p) := h.keep ((Below.refl (rb + 1) w).alloc hlt _)
  have HTA := hid fun (w4 : World) (x : Nat) (hx : x < 6) (hg : (w.alloc (.cells #[.int .i64 8, .int .i64 8, .int .i64 8, .int .i64 4, .int .i64 2, .int .i64 1] 3)).drew.grownBy w4 (some rb)) => six_kept (w := w) hg hlt hx
  have HFA := hid fun (w4 : World) (hg : (w.alloc (.cells #[.int .i64 8, .int .i64 8, .int .i64 8, .int .i64 4, .int .i64 2, .int .i64 1] 3)).grownBy w4 (some rb)) => ((Below.refl rb w).alloc (Nat.le_of_lt hlt) _).trans (grown_below hg (by show rb < (w.alloc _).heap.size; simp; omega))
  clear h
  go_enter Tryz.func20, Tryz.ntmps20
  go_wp2_with fail
  refine (HP.out p 6 _ HRA.out (by omega) (by omega) (by omega)).mono ?_
  rintro e w4 ⟨x4, rfl, hx4, hr4, hg4⟩
  obtain ⟨z, hz⟩ := HTA.out w4 x4 (by omega) ⟨hg4.os, hg4.tape, hg4.output, hg4.size, hg4.block⟩
  have HF := hid (HFA.out w4 hg4)
  have HR4 := hid hr4
  clear hr4 hg4 HTA HFA HRA
  go_wp2
  go_ret
  exact ⟨z, rfl, HR4.out, HF.out⟩
theorem BytesIn.below {w w' : World} {a : Option Addr} {n cap : Nat} {zs : List Int} (h : BytesIn w a n cap zs) (hb : Below w.heap.size w w') : BytesIn w' a n cap zs := by
  obtain ⟨h1, h2, h3, h4⟩ := h
  refine ⟨h1, h2, h3, fun i hi => ?_⟩
  obtain ⟨b, off, e, hlt, hc⟩ := h4 i hi
  exact ⟨b, off, e, Nat.lt_of_lt_of_le hlt hb.size, (hb.cell (p := ⟨b, off + i, none⟩) hlt).trans hc⟩
set_option maxRecDepth 100000 in
set_option maxHeartbeats 1000000 in
theorem drawPieces_any (a : Option Addr) (n cap : Nat) (zs : List Int) (w : World) (h : BytesIn w a n cap zs) (hn : n ≤ maxLen) :
    Calls Tryz.prog 18 #[.slice a n cap] w fun e w' => ∃ s : ByteArray, e = .returned (.string s) ∧ s.size ≤ 3001 ∧ Below w.heap.size w w' := by
  go_enter Tryz.func18, Tryz.ntmps18
  go_wp2_with fail
  refine (l1Open_any a n cap zs _ h hn).mono ?_
  rintro e w1 ⟨rfl, nn, bs, hr1, hb1⟩
  have HR1 := hid hr1
  have HB1 := hid hb1
  clear hr1 hb1
  go_wp2_with fail
  refine (pick_any w.heap.size a nn cap bs 0 20 _ HR1.out (by omega) (by omega) (by omega)).mono ?_
  rintro e w2 ⟨x, rfl, hx, hr2, hg2⟩
  have HB2 := hid (HB1.out.trans (grown_below hg2 HR1.out.lt))
  have HR2 := hid hr2
  clear hr2 hg2
  by_cases hx0 : x = 0
  · subst hx0
    go_wp2_with fail
    refine (pick_any w.heap.size a nn cap bs (0 + 1) 2 _ HR2.out (by omega) (by omega) (by omega)).mono ?_
    rintro e w3 ⟨y, rfl, hy, hr3, hg3⟩
    have HB3 := hid (HB2.out.trans (grown_below hg3 HR2.out.lt))
    clear hr3 hg3
    go_wp2_with fail
    rw [show (3000 : Int) + (y : Int) = ((3000 + y : Nat) : Int) by omega]
    refine (l1Many_any ⟨#[109]⟩ (3000 + y) _ (by decide) (by omega)).mono ?_
    rintro e w4 ⟨t, rfl, ht, rfl⟩
    go_wp2
    go_ret
    exact ⟨t, rfl, Nat.le_trans ht (by show 1 * (3000 + y) ≤ 3001; omega), HB3.out⟩
  · have hx0' : ((x : Int) == 0) = false := by simp; omega
    go_wp2_with fail
    refine (l2Thing_any w.heap.size a nn cap bs (0 + 1) _ HR2.out (by omega)).mono ?_
    rintro e w3 ⟨t, rfl, ht, p', hp', hr3, hb3⟩
    have HB3 := hid (HB2.out.trans hb3)
    clear hr3 hb3
    go_wp2
    go_ret
    exact ⟨t, rfl, by omega, HB3.out⟩
set_option maxRecDepth 100000 in
set_option maxHeartbeats 2000000 in
theorem drawDescribe_any (a : Option Addr) (n cap : Nat) (zs : List Int) (w : World) (h : BytesIn w a n cap zs) (hn : n ≤ maxLen) :
    Calls Tryz.prog 4 #[.slice a n cap] w fun e w' => ∃ (s : ByteArray) (z : Int), e = .returned (.tuple #[.string s, .int .i64 z]) ∧ s.size ≤ 3001 ∧ Below w.heap.size w w' := by
  go_enter Tryz.func4, Tryz.ntmps4
  go_wp2_with fail
  refine (l1Open_any a n cap zs _ h hn).mono ?_
  rintro e w1 ⟨rfl, nn, bs, hr1, hb1⟩
  have HP := hid fun (q : Nat) (n : Int) (W : World) (hr : Rd W w.heap.size a nn cap bs q) (h1 : 1 ≤ n) (h2 : n ≤ 100000) (hq : q ≤ 1000000) => pick_any w.heap.size a nn cap bs q n W hr h1 h2 hq
  have HR1 := hid hr1
  have HB1 := hid hb1
  have HD := hid (drawPieces_any a n cap zs w1 (h.below hb1) hn)
  clear hr1 hb1 h
  go_wp2_with fail
  refine HD.out.mono ?_
  rintro e w2 ⟨s, rfl, hs, hb2⟩
  have HR2 := hid (HR1.out.keep (hb2.mono HR1.out.lt))
  have HB2 := hid (HB1.out.trans (hb2.mono HB1.out.size))
  clear hb2 HR1 HB1 HD
  go_wp2_with fail
  refine (HP.out 0 16 _ HR2.out (by omega) (by omega) (by omega)).mono ?_
  rintro e w3 ⟨x, rfl, hx, hr3, hg3⟩
  have HB3 := hid (HB2.out.trans (grown_below hg3 HR2.out.lt))
  have HR3 := hid hr3
  clear hr3 hg3 HR2 HB2
  by_cases hx0 : x = 0
  · subst hx0
    have hlt := HR3.out.lt
    have HRA : Hid (Rd (w3.alloc (.cells #[.int .i64 0, .int .i64 9] 3)).drew w.heap.size a nn cap bs (0 + 1)) := HR3.out.keep (((Below.refl (w.heap.size + 1) w3).alloc hlt _).drew)
    have HRB : Hid (Rd w3.drew w.heap.size a nn cap bs (0 + 1)) := HR3.out
    have HTA := hid fun (w4 : World) (x : Nat) (hx : x < 2) (hg : (w3.alloc (.cells #[.int .i64 0, .int .i64 9] 3)).drew.grownBy w4 (some w.heap.size)) => two_kept2 (w := w3) hg hlt hx
    have HTB := hid fun (w4 : World) (x : Nat) (hx : x < 2) => two_new2 w4 0 9 hx
    have HFA := hid fun (w4 : World) (hg : (w3.alloc (.cells #[.int .i64 0, .int .i64 9] 3)).drew.grownBy w4 (some w.heap.size)) => (HB3.out.alloc HB3.out.size _).drew.trans (grown_below hg (by show w.heap.size < (w3.alloc _).heap.size; simp; omega))
    have HFB := hid fun (w4 : World) (hg : w3.drew.grownBy w4 (some w.heap.size)) => (HB3.out.drew.trans (grown_below hg hlt))
    go_wp2_with fail
    go_region_with (go_at_call 19; first
      | (refine (HP.out (0 + 1) 2 _ HRA.out (by omega) (by omega) (by omega)).mono ?_; rintro e w4 ⟨x4, rfl, hx4, hr4, hg4⟩; obtain ⟨z, hz⟩ := HTA.out w4 x4 (by omega) hg4; have hf := HFA.out w4 hg4)
      | (refine (HP.out (0 + 1) 2 _ HRB.out (by omega) (by omega) (by omega)).mono ?_; rintro e w4 ⟨x4, rfl, hx4, hr4, hg4⟩; obtain ⟨z, hz⟩ := HTB.out w4 x4 (by omega); have hf := (HFB.out w4 hg4).alloc (by have := (HFB.out w4 hg4).size; omega) (.cells #[.int .i64 0, .int .i64 9] 3)))
    all_goals go_wp2
    all_goals go_ret2
    all_goals exact ⟨s, z, rfl, hs, hf⟩
  · have hx0' : ((x : Int) == 0) = false := by simp; omega
    have HDW := hid fun (W : World) (hr : Rd W w.heap.size a nn cap bs (0 + 1)) => l1DrawWidth_any w.heap.size a nn cap bs (0 + 1) W hr (by omega)
    have HR3d : Hid (Rd w3.drew w.heap.size a nn cap bs (0 + 1)) := HR3.out
    go_wp2_with fail
    first
    | (refine (HDW.out _ HR3.out).mono ?_
       rintro e w4 ⟨z, rfl, _, hb4⟩
       have HB4 := hid (HB3.out.trans hb4)
       go_wp2
       go_ret2
       exact ⟨s, z, rfl, hs, HB4.out⟩)
    | (go_region_with (go_at_call 20; refine (HDW.out _ HR3d.out).mono ?_; rintro e w4 ⟨z, rfl, _, hb4⟩; have hf := HB3.out.drew.trans hb4)
       all_goals go_wp2
       all_goals go_ret2
       all_goals exact ⟨s, z, rfl, hs, hf⟩)
end Go.Proofs.YtfamkeligbiidaaGreatDoor
