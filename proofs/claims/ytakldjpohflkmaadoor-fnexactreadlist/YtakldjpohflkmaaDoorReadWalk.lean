/- laws.FnExactReadList, walked. -/
import Derived.Test.YtakldjpohflkmaaDoorReadSpec
import Derived.Test.YtakldjpohflkmaaDoorReadImpl
import Derived.Test.YtakldjpohflkmaaDoorEqList
import Derived.Test.YtakldjpohflkmaaDoorMark2
namespace Go.Proofs.YtakldjpohflkmaaDoor
open Go.RowKit
theorem lbox_new2 (w : World) (n : Int) (v : Value) : LBox (w.alloc (.cells #[.int .i64 n, v] 27)) w.heap.size n v := World.alloc_heap_new w _
theorem ReadR.len {s : ByteArray} {m n : Int} {ss : List ByteArray} {ok : Bool} (h : ReadR s m n ss ok) : ss.length ≤ 375 := by
  rcases h with ⟨_, h, _⟩ | ⟨_, _, rfl, _⟩
  · exact (okL_parts h).2.2.1
  · simp
/-- The answer of a reader whose list is known. -/
theorem ReadA.known {s : ByteArray} {m n : Int} {ss : List ByteArray} {ok : Bool} {w w' : World} {e : Ending} (h : ReadR s m n ss ok) (ha : ReadA s m w e w') : ∃ v, e = .returned (.tuple #[.agg #[.int .i64 n, v], .bool ok]) ∧ w'.ownsRow w.heap.size 9 1 v ss.length (ss.map Value.string) ∧ Below w.heap.size w w' := by
  obtain ⟨v, n', ss', ok', rfl, hr, hrow, hb⟩ := ha
  obtain ⟨rfl, rfl, rfl⟩ := h.uniq hr
  exact ⟨v, rfl, hrow, hb⟩
set_option maxRecDepth 100000 in
set_option maxHeartbeats 2000000 in
theorem readLaw_walk (a0 : ByteArray) (a1 : Int) (w0 : a0.size ≤ maxLen) (w : World) (hw : Errs w) :
    Calls Tryd.prog 4 #[.string a0, .int .i64 a1] w fun e w' => e = .returned (.bool true) ∧ Below w.heap.size w w' := by
  have HS := hid fun W => specReadList_any a0 a1 W w0
  have HW := hid hw
  clear hw
  by_cases hlt : 1048576 < a0.size
  · go_enter Tryd.func4, Tryd.ntmps4
    go_wp2
    go_ret
    exact ⟨by simp, Below.refl _ _⟩
  · have HI0 := hid fun W (h : Errs W) => implReadList_any a0 a1 W (by omega) h
    go_enter Tryd.func4, Tryd.ntmps4
    go_wp2_with fail
    refine (HS.out _).mono ?_
    rintro e w1 ⟨v1, m, ps, ok, rfl, hread, ho1, hb1⟩
    have hn := hread.len
    have hml : ps.length ≤ maxLen := by unfold maxLen; omega
    have HI : Hid (∀ W, Below w.heap.size w W → Calls Tryd.prog 11 #[.string a0, .int .i64 a1] W fun e w' => ∃ v, e = .returned (.tuple #[.agg #[.int .i64 m, v], .bool ok]) ∧ w'.ownsRow W.heap.size 9 1 v ps.length (ps.map Value.string) ∧ Below W.heap.size W w') := fun W hb => (HI0.out W (HW.out.below hb)).mono fun e w' h => ReadA.known hread h
    clear hread HS HI0 HW
    obtain ⟨s1, c1, rfl, _⟩ := row_form ho1
    go_wp2_with fail
    refine (HI.out _ (hb1.alloc hb1.size _)).mono ?_
    rintro e w2 ⟨v2, rfl, ho2, hb2⟩
    obtain ⟨s2, c2, rfl, hs2⟩ := row_form ho2
    have x1 := (lbox_new2 w1 m (.slice s1 ps.length c1)).below hb2
    have r1 := (Reads.of_row (ho1.alloc (.cells #[.int .i64 m, .slice s1 ps.length c1] 27))).below hb2
    have x12 := x1.alloc (.cells #[.int .i64 m, .slice s2 ps.length c2] 27)
    have x22 := lbox_new2 w2 m (.slice s2 ps.length c2)
    have d0 := x12.c0
    have d1 := x12.c1
    have HX1 := hid x1
    have HX22 := hid x22
    have HR1 := hid r1
    have HO1 := hid ho1
    have HO2 := hid ho2
    have HB1 := hid hb1
    have HB2 := hid hb2
    clear x1 x12 x22 r1 ho1 ho2 hb1 hb2
    have o1 := Below.row HB2.out (HO1.out.alloc (.cells #[.int .i64 m, .slice s1 ps.length c1] 27))
    have HO1a := hid o1
    clear o1
    go_wp2_with (go_at_call 9; refine (eqList_any m _ _ ps _ (Reads.of_row (HO2.out.alloc _)) (Reads.of_row (HO1a.out.alloc _)) hml).mono ?_; rintro e w3 ⟨rfl, hb3⟩; have HB3 := hid hb3; have x13 := (HX1.out.alloc (.cells #[.int .i64 m, .slice s2 ps.length c2] 27)).below hb3; have x23 := HX22.out.below hb3; have e0 := x23.c0; have e1 := x23.c1; have HX13 := hid x13; have HX23 := hid x23; clear hb3 x13 x23 d0 d1)
    have o13 := Below.row HB3.out (HO1a.out.alloc _)
    have o23 := Below.row HB3.out (HO2.out.alloc _)
    have lt1 : ∀ g, (Value.slice s1 ps.length c1).ownBlock = some g → g < w1.heap.size := fun g e => (HO1.out.lt g e).2
    have lt2 : ∀ g, (Value.slice s2 ps.length c2).ownBlock = some g → w1.heap.size + 1 ≤ g ∧ g < w2.heap.size := fun g e => by have := HO2.out.lt g e; rwa [World.size_alloc] at this
    have LT := hid lt1
    have LT2 := hid lt2
    have HO13 := hid o13
    have hm3 := markList_grown m _ 1 _ ps w3 o23 (by omega) (by omega)
    change Calls Tryd.prog 12 #[.agg #[.int .i64 m, .slice s2 ps.length c2], .int .i64 1] _ _ at hm3
    have HM := hid hm3
    obtain ⟨N, hN⟩ : ∃ N, N = 1 + ps.length := ⟨_, rfl⟩
    rw [← hN] at HM
    have HN := hid hN
    clear hN hm3 o23 o13 lt1 lt2
    refine HM.out.mono ?_
    rintro e w4 ⟨rfl, ho4, hg4⟩
    have x14 := HX13.out.kept hg4 (fun e => by have := (LT2.out _ e.symm).1; omega)
    have x24 := HX23.out.kept hg4 (fun e => by have := (LT2.out _ e.symm).2; omega)
    have o14 := HO13.out.kept hg4 (by
      cases h : (Value.slice s1 ps.length c1).ownBlock with
      | none => exact .inl rfl
      | some g => exact .inr fun e => by have := LT.out g h; have := (LT2.out g e.symm).1; omega)
    have m4 : Reads w4 (.slice s2 ps.length c2) (marks 1 ps.length) := Reads.of_row (base := (w1.alloc (.cells #[.int .i64 m, .slice s1 ps.length c1] 27)).heap.size) (by rw [marks_length]; exact ho4)
    have hb4 : Below w.heap.size w w4 := (HB1.out.trans (((Below.refl w.heap.size w1).alloc HB1.out.size _).trans ((HB2.out.mono (by have := HB1.out.size; simp; omega)).trans (((Below.refl w.heap.size w2).alloc (by have := HB1.out.size; have := HB2.out.size; simp at this; omega) _).trans (HB3.out.mono (by have := HB1.out.size; have := HB2.out.size; simp at this; simp; omega)))))).grown hg4 (by have := HB1.out.size; have := HB2.out.size; have := HB3.out.size; simp at *; omega) (fun g e => by have := (LT2.out g e).1; have := HB1.out.size; omega)
    have HB4 := hid hb4
    have HH := hid fun (W : World) (h : Reads W (.slice s2 ps.length c2) (marks 1 ps.length)) => heldList_any m (.slice s2 ps.length c2) 1 ps.length W h (by omega) (by omega)
    rw [← HN.out] at HH
    change Hid (∀ (W : World) (_ : Reads W (.slice s2 ps.length c2) (marks 1 ps.length)), Calls Tryd.prog 13 #[.agg #[.int .i64 m, .slice s2 ps.length c2], .int .i64 1] W fun e w' => e = .returned (.int .i64 N) ∧ Below W.heap.size W w') at HH
    have f0 := x24.c0
    have f1 := x24.c1
    have HX14 := hid x14
    have HX24 := hid x24
    have HO14 := hid o14
    have HM4 := hid m4
    clear x14 x24 o14 m4 hb4 ho4 hg4 e0 e1 HB1 HB2 HB3 HX1 HX22 HX13 HX23 HO13 HM HO1 HO2 HR1 LT LT2 HO1a
    go_wp2_with fail
    refine (HH.out _ HM4.out).mono ?_
    rintro e w5 ⟨rfl, hb5⟩
    have HX15 := hid (HX14.out.below hb5)
    have HX25 := hid (HX24.out.below hb5)
    have HO15 := hid (Below.row hb5 HO14.out)
    have HM5 := hid (HM4.out.below hb5)
    have HB5 := hid (HB4.out.trans (hb5.mono HB4.out.size))
    clear hb5 HX14 HX24 HO14 HM4 HB4 f0 f1
    go_wp2_with fail
    refine (HI.out _ HB5.out).mono ?_
    rintro e w6 ⟨v3, rfl, ho6, hb6⟩
    obtain ⟨s3, c3, rfl, _⟩ := row_form ho6
    have HX16 := hid (HX15.out.below hb6)
    have HX26 := hid (HX25.out.below hb6)
    have HO16 := hid (Below.row hb6 HO15.out)
    have HM6 := hid (HM5.out.below hb6)
    have HB6 := hid (HB5.out.trans (hb6.mono HB5.out.size))
    have HO36 := hid ho6
    have x16 := HX16.out.alloc (.cells #[.int .i64 m, .slice s3 ps.length c3] 27)
    have d0 := x16.c0
    have d1 := x16.c1
    clear hb6 HX15 HX25 HO15 HM5 HB5 ho6 x16
    go_wp2_with (go_at_call 9; refine (eqList_any m _ _ ps _ (Reads.of_row (HO36.out.alloc _)) (Reads.of_row (HO16.out.alloc _)) hml).mono ?_; rintro e w7 ⟨rfl, hb7⟩; have hb67 : Below w6.heap.size w6 w7 := ((Below.refl w6.heap.size w6).alloc (Nat.le_refl _) _).trans (hb7.mono (by simp)); have x27 := HX26.out.below hb67; have HM7 := hid (HM6.out.below hb67); have HB7 := hid (HB6.out.trans (hb67.mono HB6.out.size)); have g0 := x27.c0; have g1 := x27.c1; clear d0 d1 hb7 hb67 x27 HX16 HX26 HO16 HM6 HB6 HO36)
    refine (HH.out _ HM7.out).mono ?_
    rintro e w8 ⟨rfl, hb8⟩
    have HB8 := hid (HB7.out.trans (hb8.mono HB7.out.size))
    clear hb8
    go_wp2
    go_ret
    exact ⟨by simp, HB8.out⟩
end Go.Proofs.YtakldjpohflkmaaDoor
