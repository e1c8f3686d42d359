/- impl.ReadList. -/
import Derived.Test.YtakldjpohflkmaaDoorReadLines
import Derived.Test.YtakldjpohflkmaaDoorReadTurned
import Derived.Test.YtakldjpohflkmaaDoorAsFacts
namespace Go.Proofs.YtakldjpohflkmaaDoor
open Go.RowKit Go.Shelf
theorem as_hit_below (e t : Addr) (old : Value) (w : World) (hg : w.cell? ⟨1, 0, none⟩ = some (.iface 86 (.agg #[.pointer (some ⟨11, 45, none⟩)]))) (ht0 : w.cell? t = some old) (hf0 : w.frozen? t = false) :
    Calls Tryd.prog 30 #[.iface 55 (.pointer (some e)), .iface 57 (.pointer (some t))] w fun ev w' => ev = .returned (.bool true) ∧ Below t.block w w' := by
  have hl : t.block < w.heap.size := World.block_lt_of_cell? w t ht0
  refine (as_hit e t old w hg ht0 hf0).mono ?_
  rintro ev w' ⟨rfl, rfl⟩
  refine ⟨rfl, ?_⟩
  refine Below.setCell (((((Below.refl t.block w).alloc (by omega) _).alloc (by rw [World.size_alloc]; omega) _).alloc (by rw [World.size_alloc, World.size_alloc]; omega) _).alloc (by rw [World.size_alloc, World.size_alloc, World.size_alloc]; omega) _) (Nat.le_refl _) _
set_option maxRecDepth 100000 in
set_option maxHeartbeats 1000000 in
theorem implReadList_any (s : ByteArray) (m : Int) (w : World) (hs : s.size ≤ 281474976710656) (hw : Errs w) :
    Calls Tryd.prog 11 #[.string s, .int .i64 m] w (ReadA s m w) := by
  have HB0 := hid ((Below.refl w.heap.size w).alloc (Nat.le_refl _) (.cells #[.int .i64 0, .slice none 0 0] 27))
  have HR0 : Hid (LBox (w.alloc (.cells #[.int .i64 0, .slice none 0 0] 27)) w.heap.size 0 (.slice none 0 0)) := World.alloc_heap_new w _
  cases hwm : isW m with
  | false =>
    have HN := hid (noForm_width (s := s) hwm)
    clear hw
    go_enter Tryd.func11, Tryd.ntmps11
    go_wp2_with (go_at_call 28; refine (isWidth_any _ _).mono ?_; rintro e w' ⟨rfl, rfl⟩; rw [hwm])
    exact bodyPost_ret (v := .tuple #[.agg #[.int .i64 0, .slice none 0 0], .bool false]) (by simp [results, Tryd.results11, go_sem]) rfl (ReadA.no HN.out HB0.out)
  | true =>
    have hm8 : 1 ≤ m ∧ m ≤ 8 := by simpa [isW] using hwm
    obtain ⟨k, rfl⟩ := Int.eq_ofNat_of_zero_le (show 0 ≤ m by omega)
    have HL := hid (readLines_any s k (by omega) hs _ (hw.below HB0.out))
    have HW := hid hw
    clear hw
    go_enter Tryd.func11, Tryd.ntmps11
    go_wp2_with (go_at_call 28; refine (isWidth_any _ _).mono ?_; rintro e w' ⟨rfl, rfl⟩; rw [hwm])
    refine HL.out.mono ?_
    rintro e w1 ⟨hl, hb1⟩
    rw [World.size_alloc] at hb1
    have HR1 : Hid (LBox w1 w.heap.size 0 (.slice none 0 0)) := HR0.out.trans2 hb1 (Nat.lt_succ_self _)
    have hs1 := hb1.size
    rw [World.size_alloc] at hs1
    have HB1 : Hid (Below w.heap.size w w1) := HB0.out.trans (hb1.mono (Nat.le_succ _))
    clear hb1 HL HB0 HR0
    rcases hl with ⟨n, ss, v, hok, hfm, rfl, hrow⟩ | ⟨hno, a, rfl⟩
    · rw [World.size_alloc] at hrow
      obtain ⟨av, cv, rfl, _⟩ := row_form hrow
      have HROW := hid hrow
      have HOK := hid (And.intro hok hfm)
      have ra := fun o1 o2 => (HR1.out.alloc o1).alloc o2
      have ra0 := fun o1 o2 => (ra o1 o2).c0
      have raf0 := fun o1 o2 => (ra o1 o2).fz 0
      have rb : ∀ o1 o2, LBox (((w1.alloc o1).alloc o2).setCell ⟨w.heap.size, 0, none⟩ (.int .i64 n)) w.heap.size n (.slice none 0 0) := fun o1 o2 => (ra o1 o2).set0 _
      have rb1 := fun o1 o2 => (rb o1 o2).c1
      have rbf1 := fun o1 o2 => (rb o1 o2).fz 1
      have rc := fun o1 o2 => (rb o1 o2).set1 (.slice av ss.length cv)
      have rc0 := fun o1 o2 => (rc o1 o2).c0
      have rc1 := fun o1 o2 => (rc o1 o2).c1
      clear hrow hok hfm ra rb rc
      go_wp2_with (go_at_call 30; refine (as_nil _ _).mono ?_; rintro e w' ⟨rfl, rfl⟩)
      refine bodyPost_ret (v := .tuple #[.agg #[.int .i64 n, .slice av ss.length cv], .bool true]) (by simp [results, Tryd.results11, go_sem, rc0, rc1]) rfl ⟨_, n, ss, true, rfl, .inl ⟨rfl, HOK.out.1, HOK.out.2⟩, ?_, ?_⟩
      · exact ownsRow_base (row_kept (row_kept ((HROW.out.alloc _).alloc _) (grownBy_setCellAt _ w.heap.size 0 (.int .i64 n)) (by omega)) (grownBy_setCellAt _ w.heap.size 1 (.slice av ss.length cv)) (by omega)) (by omega)
      · exact (((HB1.out.alloc (by omega) _).alloc (by rw [World.size_alloc]; omega) _).setCell (p := ⟨w.heap.size, 0, none⟩) (Nat.le_refl _) _).setCell (p := ⟨w.heap.size, 1, none⟩) (Nat.le_refl _) _
    · have HN := hid hno
      have hE1 := HW.out.below HB1.out
      have hgl : 1 < w1.heap.size := World.block_lt_of_cell? w1 ⟨1, 0, none⟩ hE1.typ
      have hg : ((w1.alloc (.cells #[.int .i64 0, .slice none 0 0] 27)).alloc (.cells #[.pointer none] 55)).cell? ⟨1, 0, none⟩ = some (.iface 86 (.agg #[.pointer (some ⟨11, 45, none⟩)])) := by
        rw [World.cell?_alloc_lt _ _ ⟨1, 0, none⟩ (by rw [World.size_alloc]; show 1 < _; omega), World.cell?_alloc_lt _ _ ⟨1, 0, none⟩ hgl]; exact hE1.typ
      have HA := hid (as_hit_below a ⟨w1.heap.size + 1, 0, none⟩ (.pointer none) ((w1.alloc (.cells #[.int .i64 0, .slice none 0 0] 27)).alloc (.cells #[.pointer none] 55)) hg (by simp) (by simp))
      have HR2 := hid ((HR1.out.alloc (.cells #[.int .i64 0, .slice none 0 0] 27)).alloc (.cells #[.pointer none] 55))
      have HB2 := hid ((HB1.out.alloc (by omega) (.cells #[.int .i64 0, .slice none 0 0] 27)).alloc (by rw [World.size_alloc]; omega) (.cells #[.pointer none] 55))
      clear hno hE1 hg HW
      go_wp2_with fail
      refine HA.out.mono ?_
      rintro e w3 ⟨rfl, hb3⟩
      have HR3 := hid (HR2.out.trans2 hb3 (by show w.heap.size < w1.heap.size + 1; omega))
      have HB3 := hid (HB2.out.trans (hb3.mono (by show w.heap.size ≤ w1.heap.size + 1; omega)))
      have r0 := HR3.out.c0
      have r1 := HR3.out.c1
      have rf0 := HR3.out.fz 0
      have rb : LBox (w3.setCell ⟨w.heap.size, 0, none⟩ (.int .i64 0)) w.heap.size 0 (.slice none 0 0) := HR3.out.set0 _
      have rb1 := rb.c1
      have rbf1 := rb.fz 1
      have rc := rb.set1 (.slice none 0 0)
      clear hb3 rb HA HR2 HB2
      go_wp2
      exact bodyPost_ret (v := .tuple #[.agg #[.int .i64 0, .slice none 0 0], .bool false]) (by simp [results, Tryd.results11, go_sem, rc.c0, rc.c1]) rfl (ReadA.no HN.out ((HB3.out.setCell (p := ⟨w.heap.size, 0, none⟩) (Nat.le_refl _) _).setCell (p := ⟨w.heap.size, 1, none⟩) (Nat.le_refl _) _))
end Go.Proofs.YtakldjpohflkmaaDoor
