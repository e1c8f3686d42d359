/- laws.FnLists, walked. -/
import Derived.Test.YtfamkeligbiidaaGreatDoorDrawBuild
import Derived.Test.YtfamkeligbiidaaGreatDoorDrawRead
import Derived.Test.YtfamkeligbiidaaGreatDoorListsMath
import Derived.Test.YtfamkeligbiidaaGreatDoorWList
import Derived.Test.YtfamkeligbiidaaGreatDoorReadImpl
import Derived.Test.YtfamkeligbiidaaGreatDoorReadSpec
import Derived.Test.YtfamkeligbiidaaGreatDoorBuildSpec
import Derived.Test.YtfamkeligbiidaaGreatDoorPieces
namespace Go.Proofs.YtfamkeligbiidaaGreatDoor
open Go.RowKit
theorem lbox_at (w : World) (n : Int) (v : Value) : LBox (w.alloc (.cells #[.int .i64 n, v] 27)) w.heap.size n v := World.alloc_heap_new w _
theorem ReadA.known2 {s : ByteArray} {m n : Int} {ss : List ByteArray} {ok : Bool} {w w' : World} {e : Ending} (h : ReadR s m n ss ok) (ha : ReadA s m w e w') : ∃ v, e = .returned (.tuple #[.agg #[.int .i64 n, v], .bool ok]) ∧ w'.ownsRow w.heap.size 9 1 v ss.length (ss.map Value.string) ∧ Below w.heap.size w w' := by
  obtain ⟨v, n', ss', ok', rfl, hr, hrow, hb⟩ := ha
  obtain ⟨rfl, rfl, rfl⟩ := h.uniq hr
  exact ⟨v, rfl, hrow, hb⟩
theorem getD_small {ps : List ByteArray} {m : Nat} (h : ∀ p ∈ ps, p.size ≤ m) (i : Nat) : (ps.getD i ByteArray.empty).size ≤ m := by
  by_cases hi : i < ps.length
  · rw [List.getD_eq_getElem?_getD, List.getElem?_eq_getElem hi]; exact h _ (List.getElem_mem hi)
  · rw [List.getD_eq_getElem?_getD, List.getElem?_eq_none (by omega)]; simp
theorem ReadR.len3 {s : ByteArray} {m n : Int} {ss : List ByteArray} {ok : Bool} (h : ReadR s m n ss ok) : ss.length ≤ 375 := by
  rcases h with ⟨_, h, _⟩ | ⟨_, _, rfl, _⟩
  · exact (okL_parts h).2.2.1
  · simp
theorem ReadR.form3 {s : ByteArray} {m n : Int} {ss : List ByteArray} (h : ReadR s m n ss true) : formR n ss m = s ∧ ∀ p ∈ ss, p.size ≤ 8 := by
  rcases h with ⟨_, h1, h2⟩ | ⟨h1, _⟩
  · refine ⟨h2, fun p hp => ?_⟩
    obtain ⟨hw, _, _, hall⟩ := okL_parts h1
    have := hall p hp
    have hm8 : 1 ≤ m ∧ m ≤ 8 := by simpa [isW] using hw
    omega
  · cases h1
theorem form_ok {n m : Int} {ss : List ByteArray} (h : (formR n ss m).size ≠ 0) : okL n ss m = true := by
  cases hok : okL n ss m with
  | true => rfl
  | false =>
    have : formR n ss m = ⟨#[]⟩ := by simp [formR, hok]
    rw [this] at h
    exact absurd rfl h
set_option maxRecDepth 100000 in
set_option maxHeartbeats 20000000 in
theorem fnLists_walk (a : Option Addr) (n cap : Nat) (zs : List Int) (w : World) (h : BytesIn w a n cap zs) (hn : n ≤ maxLen) (hE : Errs w) :
    Calls Tryz.prog 3 #[.slice a n cap] w fun e w' => e = .returned (.bool true) ∧ Below w.heap.size w w' := by
  by_cases hlt : 1048576 < n
  · have hlt' : (1048576 : Int) < (n : Int) := by omega
    go_enter Tryz.func3, Tryz.ntmps3
    go_wp2
    go_ret
    exact ⟨by simp, Below.refl _ _⟩
  · have hlt' : ¬ ((1048576 : Int) < (n : Int)) := by omega
    have HIN := hid h
    have HE := hid hE
    clear h hE
    go_enter Tryz.func3, Tryz.ntmps3
    go_wp2_with fail
    refine (drawDescribe_any a n cap zs w HIN.out hn).mono ?_
    rintro e w1 ⟨t, z, rfl, ht, hb1⟩
    have HB1 := hid hb1
    clear hb1
    have hdl := descS_len t z
    have HDZ := hid (descS_size t z)
    have HREAD : Hid ((formR (descN t z) (descS t z) z).size ≠ 0 → ReadR (formR (descN t z) (descS t z) z) z (descN t z) (descS t z) true) := fun h => .inl ⟨rfl, form_ok h, rfl⟩
    have HBLD : Hid ((formR (descN t z) (descS t z) z).size ≠ 0 → t.size ≤ 3000 → buildR (descN t z) (descS t z) (piecesOf t) z = .tuple #[.string t, .bool true]) := fun h h3 => build_desc (okL_parts (form_ok h)).1 h3
    have HID := hid fun W => implDescribe_any t z W
    have HSD := hid fun W => specDescribe_any t z W (by unfold maxLen; omega)
    have HIF := hid fun W v (h : Reads W v (descS t z)) (h2 : Errs W) => implFormList_any (descN t z) v (descS t z) z W h (by unfold maxLen; omega) (descS_size t z) h2.tab
    have HSF := hid fun W v (h : Reads W v (descS t z)) => specFormList_any (descN t z) v (descS t z) z W h (by unfold maxLen; omega) (descS_size t z)
    have HIP := hid fun W => implPieces_any t W
    have hfl := formR_len (descN t z) z (descS t z)
    have hpl := piecesOf_len t
    have HPZ := hid (piecesOf_size t)
    generalize formR (descN t z) (descS t z) z = fr at *
    generalize descS t z = ds at *
    generalize descN t z = dn at *
    generalize piecesOf t = pt at *
    go_wp2_with fail
    refine (HID.out _).mono ?_
    rintro e w2 ⟨v2, rfl, ho2, hb2⟩
    obtain ⟨a2, c2, rfl, _⟩ := row_form ho2
    have HR2 := hid (Reads.of_row (ho2.alloc (.cells #[.int .i64 dn, .slice a2 ds.length c2] 27)))
    have HX2 := hid (lbox_at w2 dn (.slice a2 ds.length c2))
    have HB2 := hid ((HB1.out.trans (hb2.mono HB1.out.size)).alloc (by have := HB1.out.size; have := hb2.size; omega) (.cells #[.int .i64 dn, .slice a2 ds.length c2] 27))
    clear ho2 hb2 HB1
    go_wp2_with fail
    refine (HIF.out _ _ HR2.out (HE.out.below HB2.out)).mono ?_
    rintro e w3 ⟨rfl, hb3⟩
    have HR3 := hid (HR2.out.below hb3)
    have HX3 := hid (HX2.out.below hb3)
    have HB3 := hid (HB2.out.trans (hb3.mono HB2.out.size))
    clear hb3 HR2 HX2 HB2 HIF
    generalize w2.heap.size = b5 at *
    have hS0 : LBox w3.drew b5 dn (.slice a2 ds.length c2) := HX3.out
    have q0 := HX3.out.c0
    have q1 := HX3.out.c1
    go_wp2_with fail
    refine wp_region_held (S := fun w' => LBox w' b5 dn (.slice a2 ds.length c2)) (by kernel_rfl) ?_
    change wpAnyH _ _ _ _ _ _ _ _ (World.drew _)
    refine wpAnyH_take (i := 0) (v := .agg #[.int .i64 dn, .slice a2 ds.length c2]) rfl (by kernel_rfl) (by kernel_rfl) (by kernel_rfl) (fun _ _ _ h => h) (.inl ⟨rfl, fun w' hS => by have := hS.c0; have := hS.c1; go_simp⟩) hS0 ?_
    refine wpAnyH_take (i := 1) (v := .string t) rfl (by kernel_rfl) (by kernel_rfl) (by kernel_rfl) (fun _ _ _ h => h) (.inl ⟨rfl, fun w' hS => by go_simp⟩) hS0 ?_
    refine wpAnyH_take (i := 2) (v := .int .i64 z) rfl (by kernel_rfl) (by kernel_rfl) (by kernel_rfl) (fun _ _ _ h => h) (.inl ⟨rfl, fun w' hS => by go_simp⟩) hS0 ?_
    have he1 := enters_of Tryz.func8 (by kernel_rfl) rfl
    have he2 := enters_of Tryz.func7 (by kernel_rfl) rfl
    have he3 := enters_of Tryz.func9 (by kernel_rfl) rfl
    refine held_one 3 (by kernel_rfl) (op_calls (f := 8) (args := #[.string t, .int .i64 z]) rfl rfl (by go_simp) (HSD.out _) ?_)
    rintro e w4 ⟨v4, rfl, ho4, hb4⟩
    have hb4' : Below w3.heap.size w3 w4 := ⟨hb4.os, hb4.tape, hb4.output, hb4.size, hb4.block⟩
    obtain ⟨a4, c4, rfl, _⟩ := row_form ho4
    have HX4 := hid (HX3.out.below hb4')
    have HR4 := hid (HR3.out.below hb4')
    have HB4 := hid (HB3.out.trans (hb4'.mono HB3.out.size))
    have HV4 := hid (Reads.of_row ho4)
    clear ho4 hb4 hb4' HX3 HR3 HB3 q0 q1 hS0
    refine ⟨_, rfl, HX4.out, ?_⟩
    refine held_one 4 (by kernel_rfl) (op_calls (f := 7) (args := #[.agg #[.int .i64 dn, .slice a2 ds.length c2], .agg #[.int .i64 dn, .slice a4 ds.length c4]]) rfl rfl (by go_simp) (wList_any dn _ _ ds w4 HR4.out HV4.out (by unfold maxLen; omega)) ?_)
    rintro e w5 ⟨rfl, hb5⟩
    have HX5 := hid (HX4.out.below hb5)
    have HR5 := hid (HR4.out.below hb5)
    have HB5 := hid (HB4.out.trans (hb5.mono HB4.out.size))
    clear hb5 HX4 HR4 HB4 HV4
    refine ⟨_, rfl, HX5.out, ?_⟩
    refine wpAnyH_take (i := 5) (v := .bool false) rfl (by kernel_rfl) (by kernel_rfl) (by kernel_rfl) (fun _ _ _ h => h) (.inl ⟨rfl, fun w' hS => by go_simp⟩) HX5.out ?_
    refine wpAnyH_take (i := 6) (v := .bool false) rfl (by kernel_rfl) (by kernel_rfl) (by kernel_rfl) (fun _ _ _ h => h) (.inl ⟨rfl, fun w' hS => by go_simp⟩) HX5.out ?_
    refine wpAnyH_take (i := 7) (v := .string fr) rfl (by kernel_rfl) (by kernel_rfl) (by kernel_rfl) (fun _ _ _ h => h) (.inl ⟨by go_simp, fun w' hS => by go_simp⟩) HX5.out ?_
    refine wpAnyH_take (i := 8) (v := .agg #[.int .i64 dn, .slice a2 ds.length c2]) rfl (by kernel_rfl) (by kernel_rfl) (by kernel_rfl) (fun _ _ _ h => h) (.inl ⟨by go_simp, fun w' hS => by have := hS.c0; have := hS.c1; go_simp⟩) HX5.out ?_
    refine wpAnyH_take (i := 9) (v := .int .i64 z) rfl (by kernel_rfl) (by kernel_rfl) (by kernel_rfl) (fun _ _ _ h => h) (.inl ⟨by go_simp, fun w' hS => by go_simp⟩) HX5.out ?_
    refine held_one 10 (by kernel_rfl) ?_
    refine @op_wpW _ _ _ _ _ _ 10 ?oa1 ?hoa1 ?hwa1 ?hha1
    case hoa1 => rfl
    case hwa1 => go_simp
    unfold Oper.wp
    go_simp
    refine (HSF.out _ _ HR5.out).mono ?_
    rintro e w6 ⟨rfl, hb6⟩
    have HX6 := hid (HX5.out.below hb6)
    have HR6 := hid (HR5.out.below hb6)
    have HB6 := hid (HB5.out.trans (hb6.mono HB5.out.size))
    clear hb6 HX5 HR5 HB5
    refine ⟨HX6.out, ?_⟩
    refine wpAnyH_take (i := 11) (v := .bool false) rfl (by kernel_rfl) (by kernel_rfl) (by kernel_rfl) (fun _ _ _ h => h) (.inl ⟨by go_simp, fun w' hS => by go_simp⟩) HX6.out ?_
    refine wpAnyH_take (i := 12) (v := .bool false) rfl (by kernel_rfl) (by kernel_rfl) (by kernel_rfl) (fun _ _ _ h => h) (.inl ⟨rfl, fun w' hS => by go_simp⟩) HX6.out ?_
    refine wpAnyH_done (by kernel_rfl) ?_ _
    go_simp
    clear he1 he2 he3 HSD HSF HID
    have hfin : Hid (∀ W, Below w.heap.size w W → True) := fun _ _ => trivial
    by_cases hgo : fr.size ≠ 0 ∧ t.size ≤ 3000
    · have hne : (fr.toList == []) = false := by
        have := data_ne hgo.1
        rw [ByteArray.toList_eq]
        simpa using this
      have ht3 : (t.size : Int) ≤ 3000 := by omega
      have HRR := hid (HREAD.out hgo.1)
      have HBB := hid (HBLD.out hgo.1 hgo.2)
      have HRI := hid (implReadList_any fr z w6 (by omega) (HE.out.below HB6.out))
      clear HREAD HBLD hgo
      go_wp2_with fail
      refine HRI.out.mono ?_
      intro e w7 ha7
      obtain ⟨v7, rfl, ho7, hb7⟩ := ReadA.known2 HRR.out ha7
      obtain ⟨a7, c7, rfl, _⟩ := row_form ho7
      have HX7 := hid ((HX6.out.below hb7).alloc (.cells #[.int .i64 dn, .slice a7 ds.length c7] 27))
      have HR7 := hid ((HR6.out.below hb7).below ((Below.refl w7.heap.size w7).alloc (Nat.le_refl _) (.cells #[.int .i64 dn, .slice a7 ds.length c7] 27)))
      have HY7 := hid (lbox_at w7 dn (.slice a7 ds.length c7))
      have HV7 := hid (Reads.of_row (ho7.alloc (.cells #[.int .i64 dn, .slice a7 ds.length c7] 27)))
      have HB7 := hid ((HB6.out.trans (hb7.mono HB6.out.size)).alloc (by have := HB6.out.size; have := hb7.size; omega) (.cells #[.int .i64 dn, .slice a7 ds.length c7] 27))
      clear ho7 hb7 ha7 HRI HX6 HR6 HB6
      have hS0 : LBox (w7.alloc (.cells #[.int .i64 dn, .slice a7 ds.length c7] 27)).drew b5 dn (.slice a2 ds.length c2) := HX7.out
      have hq0 := HX7.out.c0
      have hq1 := HX7.out.c1
      go_wp2_with fail
      generalize w7.alloc (.cells #[.int .i64 dn, .slice a7 ds.length c7] 27) = w8 at *
      generalize w7.heap.size = b7 at *
      refine wp_region_held (S := fun w' => LBox w' b5 dn (.slice a2 ds.length c2)) (by kernel_rfl) ?_
      change wpAnyH _ _ _ _ _ _ _ _ (World.drew _)
      refine wpAnyH_take (i := 0) (v := .agg #[.int .i64 dn, .slice a2 ds.length c2]) rfl (by kernel_rfl) (by kernel_rfl) (by kernel_rfl) (fun _ _ _ h => h) (.inl ⟨rfl, fun w' hS => by have := hS.c0; have := hS.c1; go_simp⟩) hS0 ?_
      refine wpAnyH_take (i := 1) (v := .string t) rfl (by kernel_rfl) (by kernel_rfl) (by kernel_rfl) (fun _ _ _ h => h) (.inl ⟨rfl, fun w' hS => by go_simp⟩) hS0 ?_
      refine wpAnyH_take (i := 3) (v := .int .i64 z) rfl (by kernel_rfl) (by kernel_rfl) (by kernel_rfl) (fun _ _ _ h => h) (.inl ⟨rfl, fun w' hS => by go_simp⟩) hS0 ?_
      have he4 := enters_of Tryz.func12 (by kernel_rfl) rfl
      have he5 := enters_of Tryz.func11 (by kernel_rfl) rfl
      refine held_one 2 (by kernel_rfl) (op_calls (f := 12) (args := #[.string t]) rfl rfl (by go_simp) (HIP.out _) ?_)
      rintro e w9 ⟨v9, rfl, ho9, hb9⟩
      have hb9' : Below w8.heap.size w8 w9 := ⟨hb9.os, hb9.tape, hb9.output, hb9.size, hb9.block⟩
      obtain ⟨a9, c9, rfl, _⟩ := row_form ho9
      have HX9 := hid (HX7.out.below hb9')
      have HR9 := hid (HR7.out.below hb9')
      have HY9 := hid (HY7.out.below hb9')
      have HV9 := hid (HV7.out.below hb9')
      have HB9 := hid (HB7.out.trans (hb9'.mono HB7.out.size))
      have HP9 := hid (Reads.of_row ho9)
      clear ho9 hb9 hb9' HX7 HR7 HY7 HV7 HB7 hS0 hq0 hq1
      refine ⟨_, rfl, HX9.out, ?_⟩
      have HBI := hid (implBuild_any dn (.slice a2 ds.length c2) (.slice a9 pt.length c9) ds pt z w9 HR9.out HP9.out (by unfold maxLen; omega) (by unfold maxLen; omega) HDZ.out (fun i => by have := getD_small HPZ.out i; unfold maxLen; omega))
      rw [HBB.out] at HBI
      refine held_one 4 (by kernel_rfl) (op_calls (f := 11) (args := #[.agg #[.int .i64 dn, .slice a2 ds.length c2], .slice a9 pt.length c9, .int .i64 z]) rfl rfl (by go_simp) HBI.out ?_)
      rintro e w10 ⟨rfl, hb10⟩
      have HX10 := hid (HX9.out.below hb10)
      have HR10 := hid (HR9.out.below hb10)
      have HY10 := hid (HY9.out.below hb10)
      have HV10 := hid (HV9.out.below hb10)
      have HB10 := hid (HB9.out.trans (hb10.mono HB9.out.size))
      clear hb10 HX9 HR9 HY9 HV9 HB9 HP9 HBI
      refine ⟨_, rfl, HX10.out, ?_⟩
      refine wpAnyH_take (i := 5) (v := .tuple #[.string t, .bool true]) rfl (by kernel_rfl) (by kernel_rfl) (by kernel_rfl) (fun _ _ _ h => h) (.inl ⟨rfl, fun w' hS => by go_simp⟩) HX10.out ?_
      refine wpAnyH_take (i := 6) (v := .string t) rfl (by kernel_rfl) (by kernel_rfl) (by kernel_rfl) (fun _ _ _ h => h) (.inl ⟨rfl, fun w' hS => by go_simp⟩) HX10.out ?_
      refine wpAnyH_take (i := 7) (v := .bool true) rfl (by kernel_rfl) (by kernel_rfl) (by kernel_rfl) (fun _ _ _ h => h) (.inl ⟨rfl, fun w' hS => by go_simp⟩) HX10.out ?_
      refine held_one 8 (by kernel_rfl) (op_value (v := .string t) (w' := w10) rfl rfl (by go_simp) ⟨HX10.out, ?_⟩)
      refine held_one 9 (by kernel_rfl) (op_value (v := .bool true) (w' := w10) rfl rfl (by go_simp) ⟨HX10.out, wpAnyH_done (by kernel_rfl) ?_ _⟩)
      go_simp
      have p0 := HX10.out.c0
      have p1 := HX10.out.c1
      have r0 := HY10.out.c0
      have r1 := HY10.out.c1
      go_wp2_with (go_at_call 7; refine (wList_any dn _ _ ds _ HV10.out HR10.out (by unfold maxLen; omega)).mono ?_; rintro e w11 ⟨rfl, hb11⟩; have HBC := hid (HB10.out.trans (hb11.mono HB10.out.size)); clear hb11 p0 p1 r0 r1)
      refine (drawBuild_any a n cap zs _ (HIN.out.below HBC.out) hn).mono ?_
      rintro e u1 ⟨m, vl, vp, sl, pp, y, rfl, hr1, hr2, hl1, hl2, hz1, hz2, hbu1⟩
      obtain ⟨al, cl, rfl, _⟩ := hr1.form
      obtain ⟨ap, cp, rfl, _⟩ := hr2.form
      have hua := (Below.refl u1.heap.size u1).alloc (Nat.le_refl _) (.cells #[.int .i64 m, .slice al sl.length cl] 27)
      have UR1 := hid (hr1.below hua)
      have UP1 := hid (hr2.below hua)
      have UX1 := hid (lbox_at u1 m (.slice al sl.length cl))
      have UB1 := hid ((HBC.out.trans (hbu1.mono HBC.out.size)).alloc (by have := HBC.out.size; have := hbu1.size; omega) (.cells #[.int .i64 m, .slice al sl.length cl] 27))
      have HBI2 := hid fun W (h1 : Reads W (.slice al sl.length cl) sl) (h2 : Reads W (.slice ap pp.length cp) pp) => implBuild_any m (.slice al sl.length cl) (.slice ap pp.length cp) sl pp y W h1 h2 (by unfold maxLen; omega) (by unfold maxLen; omega) (fun i => by have := getD_small hz1 i; unfold maxLen; omega) (fun i => by have := getD_small hz2 i; unfold maxLen; omega)
      have HBS2 := hid fun W (h1 : Reads W (.slice al sl.length cl) sl) (h2 : Reads W (.slice ap pp.length cp) pp) => specBuild_any m (.slice al sl.length cl) (.slice ap pp.length cp) sl pp y W h1 h2 (by unfold maxLen; omega) (by unfold maxLen; omega) (fun i => by have := getD_small hz1 i; unfold maxLen; omega) (fun i => by have := getD_small hz2 i; omega)
      have HBK := hid fun h => build_back (n := m) (m := y) (ss := sl) (ps := pp) h
      have HDI2 := hid fun W => implDescribe_any (catB pp) y W
      have HRB : Hid (buildR m sl pp y = if buildOk m sl pp y then .tuple #[.string (catB pp), .bool true] else .tuple #[.string ⟨#[]⟩, .bool false]) := rfl
      clear hr1 hr2 hz1 hz2 hbu1 hua HBC
      generalize buildR m sl pp y = br at *
      generalize catB pp = cb at *
      have hu0 := UX1.out.c0
      have hu1 := UX1.out.c1
      go_wp2_with fail
      refine (HBI2.out _ UR1.out UP1.out).mono ?_
      rintro e u2 ⟨rfl, hb2⟩
      have UX2 := hid (UX1.out.below hb2)
      have UR2 := hid (UR1.out.below hb2)
      have UP2 := hid (UP1.out.below hb2)
      have UB2 := hid (UB1.out.trans (hb2.mono UB1.out.size))
      clear hb2 hu0 hu1 UX1 UR1 UP1 UB1
      have hu0 := UX2.out.c0
      have hu1 := UX2.out.c1
      cases hbo : buildOk m sl pp y with
      | false =>
        obtain rfl : br = .tuple #[.string ⟨#[]⟩, .bool false] := by rw [HRB.out, hbo]; rfl
        go_wp2_with fail
        refine (HBS2.out _ UR2.out UP2.out).mono ?_
        rintro e u3 ⟨rfl, hb3⟩
        have UX3 := hid (UX2.out.below hb3)
        have UB3 := hid (UB2.out.trans (hb3.mono UB2.out.size))
        clear hb3 hu0 hu1 UX2 UR2 UP2 UB2 HBI2 HBS2 HBK HDI2 HRB hbo
        go_wp2_with fail
        refine wp_region_held (S := fun w' => LBox w' u1.heap.size m (.slice al sl.length cl)) (by kernel_rfl) ?_
        change wpAnyH _ _ _ _ _ _ _ _ (World.drew _)
        refine wpAnyH_take (i := 0) (v := (.string ⟨#[]⟩)) rfl (by kernel_rfl) (by kernel_rfl) (by kernel_rfl) (fun _ _ _ h => h) (.inl ⟨rfl, fun w' hS => by go_simp⟩) UX3.out ?_
        refine wpAnyH_take (i := 1) (v := (.string ⟨#[]⟩)) rfl (by kernel_rfl) (by kernel_rfl) (by kernel_rfl) (fun _ _ _ h => h) (.inl ⟨rfl, fun w' hS => by go_simp⟩) UX3.out ?_
        refine wpAnyH_take (i := 2) (v := (.bool false)) rfl (by kernel_rfl) (by kernel_rfl) (by kernel_rfl) (fun _ _ _ h => h) (.inl ⟨rfl, fun w' hS => by go_simp⟩) UX3.out ?_
        refine wpAnyH_take (i := 3) (v := (.bool false)) rfl (by kernel_rfl) (by kernel_rfl) (by kernel_rfl) (fun _ _ _ h => h) (.inl ⟨rfl, fun w' hS => by go_simp⟩) UX3.out ?_
        refine wpAnyH_take (i := 4) (v := (.bool false)) rfl (by kernel_rfl) (by kernel_rfl) (by kernel_rfl) (fun _ _ _ h => h) (.inl ⟨by go_simp, fun w' hS => by go_simp⟩) UX3.out ?_
        refine wpAnyH_take (i := 5) (v := (.bool false)) rfl (by kernel_rfl) (by kernel_rfl) (by kernel_rfl) (fun _ _ _ h => h) (.inl ⟨by go_simp, fun w' hS => by go_simp⟩) UX3.out ?_
        refine wpAnyH_take (i := 6) (v := (.bool false)) rfl (by kernel_rfl) (by kernel_rfl) (by kernel_rfl) (fun _ _ _ h => h) (.inl ⟨by go_simp, fun w' hS => by go_simp⟩) UX3.out ?_
        refine wpAnyH_take (i := 7) (v := (.bool false)) rfl (by kernel_rfl) (by kernel_rfl) (by kernel_rfl) (fun _ _ _ h => h) (.inl ⟨rfl, fun w' hS => by go_simp⟩) UX3.out ?_
        refine wpAnyH_take (i := 8) (v := (.bool false)) rfl (by kernel_rfl) (by kernel_rfl) (by kernel_rfl) (fun _ _ _ h => h) (.inl ⟨rfl, fun w' hS => by go_simp⟩) UX3.out ?_
        refine wpAnyH_take (i := 9) (v := (.bool false)) rfl (by kernel_rfl) (by kernel_rfl) (by kernel_rfl) (fun _ _ _ h => h) (.inl ⟨by go_simp, fun w' hS => by go_simp⟩) UX3.out ?_
        refine wpAnyH_take (i := 10) (v := (.bool false)) rfl (by kernel_rfl) (by kernel_rfl) (by kernel_rfl) (fun _ _ _ h => h) (.inl ⟨by go_simp, fun w' hS => by go_simp⟩) UX3.out ?_
        refine wpAnyH_take (i := 11) (v := undef) rfl (by kernel_rfl) (by kernel_rfl) (by kernel_rfl) (fun _ _ _ h => h) (.inr ⟨by go_simp, rfl⟩) UX3.out ?_
        refine wpAnyH_take (i := 12) (v := undef) rfl (by kernel_rfl) (by kernel_rfl) (by kernel_rfl) (fun _ _ _ h => h) (.inr ⟨by go_simp, rfl⟩) UX3.out ?_
        refine wpAnyH_take (i := 13) (v := undef) rfl (by kernel_rfl) (by kernel_rfl) (by kernel_rfl) (fun _ _ _ h => h) (.inr ⟨by go_simp, rfl⟩) UX3.out ?_
        refine wpAnyH_take (i := 14) (v := undef) rfl (by kernel_rfl) (by kernel_rfl) (by kernel_rfl) (fun _ _ _ h => h) (.inr ⟨by go_simp, rfl⟩) UX3.out ?_
        refine wpAnyH_take (i := 15) (v := undef) rfl (by kernel_rfl) (by kernel_rfl) (by kernel_rfl) (fun _ _ _ h => h) (.inr ⟨by go_simp, rfl⟩) UX3.out ?_
        refine wpAnyH_take (i := 16) (v := undef) rfl (by kernel_rfl) (by kernel_rfl) (by kernel_rfl) (fun _ _ _ h => h) (.inr ⟨by go_simp, rfl⟩) UX3.out ?_
        refine wpAnyH_take (i := 17) (v := (.bool false)) rfl (by kernel_rfl) (by kernel_rfl) (by kernel_rfl) (fun _ _ _ h => h) (.inl ⟨by go_simp, fun w' hS => by go_simp⟩) UX3.out ?_
        refine wpAnyH_take (i := 18) (v := (.bool false)) rfl (by kernel_rfl) (by kernel_rfl) (by kernel_rfl) (fun _ _ _ h => h) (.inl ⟨rfl, fun w' hS => by go_simp⟩) UX3.out ?_
        refine wpAnyH_done (by kernel_rfl) ?_ _
        go_simp
        have HBD : Hid (Below w.heap.size w u3.drew) := UB3.out.drew
        clear UX3 UB3
        go_wp2_with fail
        refine (drawReadList_any a n cap zs _ (HIN.out.below HBD.out) hn).mono ?_
        rintro e x1 ⟨uu, yy, rfl, huu, hbx1⟩
        have XB1 := hid (HBD.out.trans (hbx1.mono HBD.out.size))
        clear hbx1 HBD
        go_wp2_with fail
        refine (implReadList_any uu yy _ (by omega) (HE.out.below XB1.out)).mono ?_
        rintro e x2 ⟨vx, nx, sx, okx, rfl, hrx, hox, hbx2⟩
        have XB2 := hid (XB1.out.trans (hbx2.mono XB1.out.size))
        obtain ⟨ax, cx, rfl, _⟩ := row_form hox
        have XX2 := hid (lbox_at x2 nx (.slice ax sx.length cx))
        have XR2 := hid (Reads.of_row (hox.alloc (.cells #[.int .i64 nx, .slice ax sx.length cx] 27)))
        have XB3 := hid (XB2.out.alloc XB2.out.size (.cells #[.int .i64 nx, .slice ax sx.length cx] 27))
        have hsx := hrx.len3
        have HRX := hid hrx
        clear hox hbx2 hrx XB1 XB2
        go_wp2_with fail
        refine (specReadList_any uu yy _ (by unfold maxLen; omega)).mono ?_
        intro e x3 ha3
        obtain ⟨v3, rfl, ho3, hb3⟩ := ReadA.known2 HRX.out ha3
        obtain ⟨a3, c3, rfl, _⟩ := row_form ho3
        have XX4 := (XX2.out.below hb3).alloc (.cells #[.int .i64 nx, .slice a3 sx.length c3] 27)
        have XR4 := hid ((XR2.out.below hb3).below ((Below.refl x3.heap.size x3).alloc (Nat.le_refl _) (.cells #[.int .i64 nx, .slice a3 sx.length c3] 27)))
        have XB4 := hid ((XB3.out.trans (hb3.mono XB3.out.size)).alloc (by have := XB3.out.size; have := hb3.size; omega) (.cells #[.int .i64 nx, .slice a3 sx.length c3] 27))
        have n0 := XX4.c0
        have n1 := XX4.c1
        clear ho3 hb3 ha3 XX2 XR2 XB3 XX4
        cases okx with
        | false =>
          go_wp2
          go_ret
          exact ⟨by simp, XB4.out⟩
        | true =>
          obtain ⟨hfx, hzx⟩ := HRX.out.form3
          have HFX := hid (implFormList_any nx (.slice ax sx.length cx) sx yy _ XR4.out (by unfold maxLen; omega) (fun i => by have := getD_small hzx i; unfold maxLen; omega) (HE.out.below XB4.out).tab)
          rw [hfx] at HFX
          clear hfx hzx
          go_wp2_with (go_at_call 6; refine HFX.out.mono ?_; rintro e x5 ⟨rfl, hb5⟩; have XB5 := hid (XB4.out.trans (hb5.mono XB4.out.size)); clear hb5)
          go_ret
          exact ⟨by simp, XB5.out⟩
      | true =>
        obtain rfl : br = .tuple #[.string cb, .bool true] := by rw [HRB.out, hbo]; rfl
        obtain ⟨hbn, hbs⟩ := HBK.out hbo
        rw [hbn, hbs] at HDI2
        go_wp2_with fail
        refine (HBS2.out _ UR2.out UP2.out).mono ?_
        rintro e u3 ⟨rfl, hb3⟩
        have UX3 := hid (UX2.out.below hb3)
        have UR3 := hid (UR2.out.below hb3)
        have UB3 := hid (UB2.out.trans (hb3.mono UB2.out.size))
        clear hb3 hu0 hu1 UX2 UR2 UP2 UB2 HBI2 HBS2 HBK HRB hbo hbn hbs
        go_wp2_with fail
        refine wp_region_held (S := fun w' => LBox w' u1.heap.size m (.slice al sl.length cl)) (by kernel_rfl) ?_
        change wpAnyH _ _ _ _ _ _ _ _ (World.drew _)
        refine wpAnyH_take (i := 0) (v := (.string cb)) rfl (by kernel_rfl) (by kernel_rfl) (by kernel_rfl) (fun _ _ _ h => h) (.inl ⟨rfl, fun w' hS => by go_simp⟩) UX3.out ?_
        refine wpAnyH_take (i := 1) (v := (.string cb)) rfl (by kernel_rfl) (by kernel_rfl) (by kernel_rfl) (fun _ _ _ h => h) (.inl ⟨rfl, fun w' hS => by go_simp⟩) UX3.out ?_
        refine wpAnyH_take (i := 2) (v := (.bool false)) rfl (by kernel_rfl) (by kernel_rfl) (by kernel_rfl) (fun _ _ _ h => h) (.inl ⟨rfl, fun w' hS => by go_simp⟩) UX3.out ?_
        refine wpAnyH_take (i := 3) (v := (.bool false)) rfl (by kernel_rfl) (by kernel_rfl) (by kernel_rfl) (fun _ _ _ h => h) (.inl ⟨rfl, fun w' hS => by go_simp⟩) UX3.out ?_
        refine wpAnyH_take (i := 4) (v := (.bool true)) rfl (by kernel_rfl) (by kernel_rfl) (by kernel_rfl) (fun _ _ _ h => h) (.inl ⟨by go_simp, fun w' hS => by go_simp⟩) UX3.out ?_
        refine wpAnyH_take (i := 5) (v := (.bool true)) rfl (by kernel_rfl) (by kernel_rfl) (by kernel_rfl) (fun _ _ _ h => h) (.inl ⟨by go_simp, fun w' hS => by go_simp⟩) UX3.out ?_
        refine wpAnyH_take (i := 6) (v := (.bool false)) rfl (by kernel_rfl) (by kernel_rfl) (by kernel_rfl) (fun _ _ _ h => h) (.inl ⟨by go_simp, fun w' hS => by go_simp⟩) UX3.out ?_
        refine wpAnyH_take (i := 7) (v := (.bool false)) rfl (by kernel_rfl) (by kernel_rfl) (by kernel_rfl) (fun _ _ _ h => h) (.inl ⟨rfl, fun w' hS => by go_simp⟩) UX3.out ?_
        refine wpAnyH_take (i := 8) (v := (.bool false)) rfl (by kernel_rfl) (by kernel_rfl) (by kernel_rfl) (fun _ _ _ h => h) (.inl ⟨rfl, fun w' hS => by go_simp⟩) UX3.out ?_
        refine wpAnyH_take (i := 9) (v := (.bool true)) rfl (by kernel_rfl) (by kernel_rfl) (by kernel_rfl) (fun _ _ _ h => h) (.inl ⟨by go_simp, fun w' hS => by go_simp⟩) UX3.out ?_
        refine wpAnyH_take (i := 10) (v := (.bool true)) rfl (by kernel_rfl) (by kernel_rfl) (by kernel_rfl) (fun _ _ _ h => h) (.inl ⟨by go_simp, fun w' hS => by go_simp⟩) UX3.out ?_
        refine wpAnyH_take (i := 11) (v := (.string cb)) rfl (by kernel_rfl) (by kernel_rfl) (by kernel_rfl) (fun _ _ _ h => h) (.inl ⟨by go_simp, fun w' hS => by go_simp⟩) UX3.out ?_
        refine wpAnyH_take (i := 12) (v := (.int .i64 y)) rfl (by kernel_rfl) (by kernel_rfl) (by kernel_rfl) (fun _ _ _ h => h) (.inl ⟨by go_simp, fun w' hS => by go_simp⟩) UX3.out ?_
        refine wpAnyH_take (i := 14) (v := (.agg #[.int .i64 m, .slice al sl.length cl])) rfl (by kernel_rfl) (by kernel_rfl) (by kernel_rfl) (fun _ _ _ h => h) (.inl ⟨by go_simp, fun w' hS => by have := hS.c0; have := hS.c1; go_simp⟩) UX3.out ?_
        have he6 := enters_of Tryz.func5 (by kernel_rfl) rfl
        have he7 := enters_of Tryz.func7 (by kernel_rfl) rfl
        refine held_one 13 (by kernel_rfl) ?_
        refine @op_wpW _ _ _ _ _ _ 13 ?ob2 ?hob2 ?hwb2 ?hhb2
        case hob2 => rfl
        case hwb2 => go_simp
        unfold Oper.wp
        go_simp
        refine (HDI2.out _).mono ?_
        rintro e u4 ⟨v4, rfl, ho4, hb4⟩
        have hb4' : Below u3.heap.size u3 u4 := ⟨hb4.os, hb4.tape, hb4.output, hb4.size, hb4.block⟩
        obtain ⟨a4, c4, rfl, _⟩ := row_form ho4
        have UX4 := hid (UX3.out.below hb4')
        have UR4 := hid (UR3.out.below hb4')
        have UB4 := hid (UB3.out.trans (hb4'.mono UB3.out.size))
        have UV4 := hid (Reads.of_row ho4)
        clear ho4 hb4 hb4' UX3 UR3 UB3
        refine ⟨UX4.out, ?_⟩
        refine held_one 15 (by kernel_rfl) ?_
        refine @op_wpW _ _ _ _ _ _ 15 ?oc3 ?hoc3 ?hwc3 ?hhc3
        case hoc3 => rfl
        case hwc3 => go_simp
        unfold Oper.wp
        go_simp
        refine (wList_any m _ _ sl _ UV4.out UR4.out (by unfold maxLen; omega)).mono ?_
        rintro e u5 ⟨rfl, hb5⟩
        have UX3 := hid (UX4.out.below hb5)
        have UB5 := hid (UB4.out.trans (hb5.mono UB4.out.size))
        clear hb5 UX4 UR4 UB4 UV4
        refine ⟨UX3.out, ?_⟩
        refine wpAnyH_take (i := 16) (v := (.bool false)) rfl (by kernel_rfl) (by kernel_rfl) (by kernel_rfl) (fun _ _ _ h => h) (.inl ⟨by go_simp, fun w' hS => by go_simp⟩) UX3.out ?_
        refine wpAnyH_take (i := 17) (v := (.bool false)) rfl (by kernel_rfl) (by kernel_rfl) (by kernel_rfl) (fun _ _ _ h => h) (.inl ⟨by go_simp, fun w' hS => by go_simp⟩) UX3.out ?_
        refine wpAnyH_take (i := 18) (v := (.bool false)) rfl (by kernel_rfl) (by kernel_rfl) (by kernel_rfl) (fun _ _ _ h => h) (.inl ⟨rfl, fun w' hS => by go_simp⟩) UX3.out ?_
        refine wpAnyH_done (by kernel_rfl) ?_ _
        go_simp
        have HBD : Hid (Below w.heap.size w u5) := UB5.out
        clear UX3 UB5 he6 he7
        go_wp2_with fail
        refine (drawReadList_any a n cap zs _ (HIN.out.below HBD.out) hn).mono ?_
        rintro e x1 ⟨uu, yy, rfl, huu, hbx1⟩
        have XB1 := hid (HBD.out.trans (hbx1.mono HBD.out.size))
        clear hbx1 HBD
        go_wp2_with fail
        refine (implReadList_any uu yy _ (by omega) (HE.out.below XB1.out)).mono ?_
        rintro e x2 ⟨vx, nx, sx, okx, rfl, hrx, hox, hbx2⟩
        have XB2 := hid (XB1.out.trans (hbx2.mono XB1.out.size))
        obtain ⟨ax, cx, rfl, _⟩ := row_form hox
        have XX2 := hid (lbox_at x2 nx (.slice ax sx.length cx))
        have XR2 := hid (Reads.of_row (hox.alloc (.cells #[.int .i64 nx, .slice ax sx.length cx] 27)))
        have XB3 := hid (XB2.out.alloc XB2.out.size (.cells #[.int .i64 nx, .slice ax sx.length cx] 27))
        have hsx := hrx.len3
        have HRX := hid hrx
        clear hox hbx2 hrx XB1 XB2
        go_wp2_with fail
        refine (specReadList_any uu yy _ (by unfold maxLen; omega)).mono ?_
        intro e x3 ha3
        obtain ⟨v3, rfl, ho3, hb3⟩ := ReadA.known2 HRX.out ha3
        obtain ⟨a3, c3, rfl, _⟩ := row_form ho3
        have XX4 := (XX2.out.below hb3).alloc (.cells #[.int .i64 nx, .slice a3 sx.length c3] 27)
        have XR4 := hid ((XR2.out.below hb3).below ((Below.refl x3.heap.size x3).alloc (Nat.le_refl _) (.cells #[.int .i64 nx, .slice a3 sx.length c3] 27)))
        have XB4 := hid ((XB3.out.trans (hb3.mono XB3.out.size)).alloc (by have := XB3.out.size; have := hb3.size; omega) (.cells #[.int .i64 nx, .slice a3 sx.length c3] 27))
        have n0 := XX4.c0
        have n1 := XX4.c1
        clear ho3 hb3 ha3 XX2 XR2 XB3 XX4
        cases okx with
        | false =>
          go_wp2
          go_ret
          exact ⟨by simp, XB4.out⟩
        | true =>
          obtain ⟨hfx, hzx⟩ := HRX.out.form3
          have HFX := hid (implFormList_any nx (.slice ax sx.length cx) sx yy _ XR4.out (by unfold maxLen; omega) (fun i => by have := getD_small hzx i; unfold maxLen; omega) (HE.out.below XB4.out).tab)
          rw [hfx] at HFX
          clear hfx hzx
          go_wp2_with (go_at_call 6; refine HFX.out.mono ?_; rintro e x5 ⟨rfl, hb5⟩; have XB5 := hid (XB4.out.trans (hb5.mono XB4.out.size)); clear hb5)
          go_ret
          exact ⟨by simp, XB5.out⟩
    · have HBC := HB6
      have hgo2 : fr.size = 0 ∨ (fr.size ≠ 0 ∧ ¬ (t.size ≤ 3000)) := by
        by_cases h0 : fr.size = 0
        · exact .inl h0
        · exact .inr ⟨h0, fun h => hgo ⟨h0, h⟩⟩
      clear HREAD HBLD hgo HX6 HR6 HB6
      rcases hgo2 with h0 | ⟨h0, h3⟩
      · obtain rfl : fr = ⟨#[]⟩ := empty_of h0
        go_wp2_with fail
        refine (drawBuild_any a n cap zs _ (HIN.out.below HBC.out) hn).mono ?_
        rintro e u1 ⟨m, vl, vp, sl, pp, y, rfl, hr1, hr2, hl1, hl2, hz1, hz2, hbu1⟩
        obtain ⟨al, cl, rfl, _⟩ := hr1.form
        obtain ⟨ap, cp, rfl, _⟩ := hr2.form
        have hua := (Below.refl u1.heap.size u1).alloc (Nat.le_refl _) (.cells #[.int .i64 m, .slice al sl.length cl] 27)
        have UR1 := hid (hr1.below hua)
        have UP1 := hid (hr2.below hua)
        have UX1 := hid (lbox_at u1 m (.slice al sl.length cl))
        have UB1 := hid ((HBC.out.trans (hbu1.mono HBC.out.size)).alloc (by have := HBC.out.size; have := hbu1.size; omega) (.cells #[.int .i64 m, .slice al sl.length cl] 27))
        have HBI2 := hid fun W (h1 : Reads W (.slice al sl.length cl) sl) (h2 : Reads W (.slice ap pp.length cp) pp) => implBuild_any m (.slice al sl.length cl) (.slice ap pp.length cp) sl pp y W h1 h2 (by unfold maxLen; omega) (by unfold maxLen; omega) (fun i => by have := getD_small hz1 i; unfold maxLen; omega) (fun i => by have := getD_small hz2 i; unfold maxLen; omega)
        have HBS2 := hid fun W (h1 : Reads W (.slice al sl.length cl) sl) (h2 : Reads W (.slice ap pp.length cp) pp) => specBuild_any m (.slice al sl.length cl) (.slice ap pp.length cp) sl pp y W h1 h2 (by unfold maxLen; omega) (by unfold maxLen; omega) (fun i => by have := getD_small hz1 i; unfold maxLen; omega) (fun i => by have := getD_small hz2 i; omega)
        have HBK := hid fun h => build_back (n := m) (m := y) (ss := sl) (ps := pp) h
        have HDI2 := hid fun W => implDescribe_any (catB pp) y W
        have HRB : Hid (buildR m sl pp y = if buildOk m sl pp y then .tuple #[.string (catB pp), .bool true] else .tuple #[.string ⟨#[]⟩, .bool false]) := rfl
        clear hr1 hr2 hz1 hz2 hbu1 hua HBC
        generalize buildR m sl pp y = br at *
        generalize catB pp = cb at *
        have hu0 := UX1.out.c0
        have hu1 := UX1.out.c1
        go_wp2_with fail
        refine (HBI2.out _ UR1.out UP1.out).mono ?_
        rintro e u2 ⟨rfl, hb2⟩
        have UX2 := hid (UX1.out.below hb2)
        have UR2 := hid (UR1.out.below hb2)
        have UP2 := hid (UP1.out.below hb2)
        have UB2 := hid (UB1.out.trans (hb2.mono UB1.out.size))
        clear hb2 hu0 hu1 UX1 UR1 UP1 UB1
        have hu0 := UX2.out.c0
        have hu1 := UX2.out.c1
        cases hbo : buildOk m sl pp y with
        | false =>
          obtain rfl : br = .tuple #[.string ⟨#[]⟩, .bool false] := by rw [HRB.out, hbo]; rfl
          go_wp2_with fail
          refine (HBS2.out _ UR2.out UP2.out).mono ?_
          rintro e u3 ⟨rfl, hb3⟩
          have UX3 := hid (UX2.out.below hb3)
          have UB3 := hid (UB2.out.trans (hb3.mono UB2.out.size))
          clear hb3 hu0 hu1 UX2 UR2 UP2 UB2 HBI2 HBS2 HBK HDI2 HRB hbo
          go_wp2_with fail
          refine wp_region_held (S := fun w' => LBox w' u1.heap.size m (.slice al sl.length cl)) (by kernel_rfl) ?_
          change wpAnyH _ _ _ _ _ _ _ _ (World.drew _)
          refine wpAnyH_take (i := 0) (v := (.string ⟨#[]⟩)) rfl (by kernel_rfl) (by kernel_rfl) (by kernel_rfl) (fun _ _ _ h => h) (.inl ⟨rfl, fun w' hS => by go_simp⟩) UX3.out ?_
          refine wpAnyH_take (i := 1) (v := (.string ⟨#[]⟩)) rfl (by kernel_rfl) (by kernel_rfl) (by kernel_rfl) (fun _ _ _ h => h) (.inl ⟨rfl, fun w' hS => by go_simp⟩) UX3.out ?_
          refine wpAnyH_take (i := 2) (v := (.bool false)) rfl (by kernel_rfl) (by kernel_rfl) (by kernel_rfl) (fun _ _ _ h => h) (.inl ⟨rfl, fun w' hS => by go_simp⟩) UX3.out ?_
          refine wpAnyH_take (i := 3) (v := (.bool false)) rfl (by kernel_rfl) (by kernel_rfl) (by kernel_rfl) (fun _ _ _ h => h) (.inl ⟨rfl, fun w' hS => by go_simp⟩) UX3.out ?_
          refine wpAnyH_take (i := 4) (v := (.bool false)) rfl (by kernel_rfl) (by kernel_rfl) (by kernel_rfl) (fun _ _ _ h => h) (.inl ⟨by go_simp, fun w' hS => by go_simp⟩) UX3.out ?_
          refine wpAnyH_take (i := 5) (v := (.bool false)) rfl (by kernel_rfl) (by kernel_rfl) (by kernel_rfl) (fun _ _ _ h => h) (.inl ⟨by go_simp, fun w' hS => by go_simp⟩) UX3.out ?_
          refine wpAnyH_take (i := 6) (v := (.bool false)) rfl (by kernel_rfl) (by kernel_rfl) (by kernel_rfl) (fun _ _ _ h => h) (.inl ⟨by go_simp, fun w' hS => by go_simp⟩) UX3.out ?_
          refine wpAnyH_take (i := 7) (v := (.bool false)) rfl (by kernel_rfl) (by kernel_rfl) (by kernel_rfl) (fun _ _ _ h => h) (.inl ⟨rfl, fun w' hS => by go_simp⟩) UX3.out ?_
          refine wpAnyH_take (i := 8) (v := (.bool false)) rfl (by kernel_rfl) (by kernel_rfl) (by kernel_rfl) (fun _ _ _ h => h) (.inl ⟨rfl, fun w' hS => by go_simp⟩) UX3.out ?_
          refine wpAnyH_take (i := 9) (v := (.bool false)) rfl (by kernel_rfl) (by kernel_rfl) (by kernel_rfl) (fun _ _ _ h => h) (.inl ⟨by go_simp, fun w' hS => by go_simp⟩) UX3.out ?_
          refine wpAnyH_take (i := 10) (v := (.bool false)) rfl (by kernel_rfl) (by kernel_rfl) (by kernel_rfl) (fun _ _ _ h => h) (.inl ⟨by go_simp, fun w' hS => by go_simp⟩) UX3.out ?_
          refine wpAnyH_take (i := 11) (v := undef) rfl (by kernel_rfl) (by kernel_rfl) (by kernel_rfl) (fun _ _ _ h => h) (.inr ⟨by go_simp, rfl⟩) UX3.out ?_
          refine wpAnyH_take (i := 12) (v := undef) rfl (by kernel_rfl) (by kernel_rfl) (by kernel_rfl) (fun _ _ _ h => h) (.inr ⟨by go_simp, rfl⟩) UX3.out ?_
          refine wpAnyH_take (i := 13) (v := undef) rfl (by kernel_rfl) (by kernel_rfl) (by kernel_rfl) (fun _ _ _ h => h) (.inr ⟨by go_simp, rfl⟩) UX3.out ?_
          refine wpAnyH_take (i := 14) (v := undef) rfl (by kernel_rfl) (by kernel_rfl) (by kernel_rfl) (fun _ _ _ h => h) (.inr ⟨by go_simp, rfl⟩) UX3.out ?_
          refine wpAnyH_take (i := 15) (v := undef) rfl (by kernel_rfl) (by kernel_rfl) (by kernel_rfl) (fun _ _ _ h => h) (.inr ⟨by go_simp, rfl⟩) UX3.out ?_
          refine wpAnyH_take (i := 16) (v := undef) rfl (by kernel_rfl) (by kernel_rfl) (by kernel_rfl) (fun _ _ _ h => h) (.inr ⟨by go_simp, rfl⟩) UX3.out ?_
          refine wpAnyH_take (i := 17) (v := (.bool false)) rfl (by kernel_rfl) (by kernel_rfl) (by kernel_rfl) (fun _ _ _ h => h) (.inl ⟨by go_simp, fun w' hS => by go_simp⟩) UX3.out ?_
          refine wpAnyH_take (i := 18) (v := (.bool false)) rfl (by kernel_rfl) (by kernel_rfl) (by kernel_rfl) (fun _ _ _ h => h) (.inl ⟨rfl, fun w' hS => by go_simp⟩) UX3.out ?_
          refine wpAnyH_done (by kernel_rfl) ?_ _
          go_simp
          have HBD : Hid (Below w.heap.size w u3.drew) := UB3.out.drew
          clear UX3 UB3
          go_wp2_with fail
          refine (drawReadList_any a n cap zs _ (HIN.out.below HBD.out) hn).mono ?_
          rintro e x1 ⟨uu, yy, rfl, huu, hbx1⟩
          have XB1 := hid (HBD.out.trans (hbx1.mono HBD.out.size))
          clear hbx1 HBD
          go_wp2_with fail
          refine (implReadList_any uu yy _ (by omega) (HE.out.below XB1.out)).mono ?_
          rintro e x2 ⟨vx, nx, sx, okx, rfl, hrx, hox, hbx2⟩
          have XB2 := hid (XB1.out.trans (hbx2.mono XB1.out.size))
          obtain ⟨ax, cx, rfl, _⟩ := row_form hox
          have XX2 := hid (lbox_at x2 nx (.slice ax sx.length cx))
          have XR2 := hid (Reads.of_row (hox.alloc (.cells #[.int .i64 nx, .slice ax sx.length cx] 27)))
          have XB3 := hid (XB2.out.alloc XB2.out.size (.cells #[.int .i64 nx, .slice ax sx.length cx] 27))
          have hsx := hrx.len3
          have HRX := hid hrx
          clear hox hbx2 hrx XB1 XB2
          go_wp2_with fail
          refine (specReadList_any uu yy _ (by unfold maxLen; omega)).mono ?_
          intro e x3 ha3
          obtain ⟨v3, rfl, ho3, hb3⟩ := ReadA.known2 HRX.out ha3
          obtain ⟨a3, c3, rfl, _⟩ := row_form ho3
          have XX4 := (XX2.out.below hb3).alloc (.cells #[.int .i64 nx, .slice a3 sx.length c3] 27)
          have XR4 := hid ((XR2.out.below hb3).below ((Below.refl x3.heap.size x3).alloc (Nat.le_refl _) (.cells #[.int .i64 nx, .slice a3 sx.length c3] 27)))
          have XB4 := hid ((XB3.out.trans (hb3.mono XB3.out.size)).alloc (by have := XB3.out.size; have := hb3.size; omega) (.cells #[.int .i64 nx, .slice a3 sx.length c3] 27))
          have n0 := XX4.c0
          have n1 := XX4.c1
          clear ho3 hb3 ha3 XX2 XR2 XB3 XX4
          cases okx with
          | false =>
            go_wp2
            go_ret
            exact ⟨by simp, XB4.out⟩
          | true =>
            obtain ⟨hfx, hzx⟩ := HRX.out.form3
            have HFX := hid (implFormList_any nx (.slice ax sx.length cx) sx yy _ XR4.out (by unfold maxLen; omega) (fun i => by have := getD_small hzx i; unfold maxLen; omega) (HE.out.below XB4.out).tab)
            rw [hfx] at HFX
            clear hfx hzx
            go_wp2_with (go_at_call 6; refine HFX.out.mono ?_; rintro e x5 ⟨rfl, hb5⟩; have XB5 := hid (XB4.out.trans (hb5.mono XB4.out.size)); clear hb5)
            go_ret
            exact ⟨by simp, XB5.out⟩
        | true =>
          obtain rfl : br = .tuple #[.string cb, .bool true] := by rw [HRB.out, hbo]; rfl
          obtain ⟨hbn, hbs⟩ := HBK.out hbo
          rw [hbn, hbs] at HDI2
          go_wp2_with fail
          refine (HBS2.out _ UR2.out UP2.out).mono ?_
          rintro e u3 ⟨rfl, hb3⟩
          have UX3 := hid (UX2.out.below hb3)
          have UR3 := hid (UR2.out.below hb3)
          have UB3 := hid (UB2.out.trans (hb3.mono UB2.out.size))
          clear hb3 hu0 hu1 UX2 UR2 UP2 UB2 HBI2 HBS2 HBK HRB hbo hbn hbs
          go_wp2_with fail
          refine wp_region_held (S := fun w' => LBox w' u1.heap.size m (.slice al sl.length cl)) (by kernel_rfl) ?_
          change wpAnyH _ _ _ _ _ _ _ _ (World.drew _)
          refine wpAnyH_take (i := 0) (v := (.string cb)) rfl (by kernel_rfl) (by kernel_rfl) (by kernel_rfl) (fun _ _ _ h => h) (.inl ⟨rfl, fun w' hS => by go_simp⟩) UX3.out ?_
          refine wpAnyH_take (i := 1) (v := (.string cb)) rfl (by kernel_rfl) (by kernel_rfl) (by kernel_rfl) (fun _ _ _ h => h) (.inl ⟨rfl, fun w' hS => by go_simp⟩) UX3.out ?_
          refine wpAnyH_take (i := 2) (v := (.bool false)) rfl (by kernel_rfl) (by kernel_rfl) (by kernel_rfl) (fun _ _ _ h => h) (.inl ⟨rfl, fun w' hS => by go_simp⟩) UX3.out ?_
          refine wpAnyH_take (i := 3) (v := (.bool false)) rfl (by kernel_rfl) (by kernel_rfl) (by kernel_rfl) (fun _ _ _ h => h) (.inl ⟨rfl, fun w' hS => by go_simp⟩) UX3.out ?_
          refine wpAnyH_take (i := 4) (v := (.bool true)) rfl (by kernel_rfl) (by kernel_rfl) (by kernel_rfl) (fun _ _ _ h => h) (.inl ⟨by go_simp, fun w' hS => by go_simp⟩) UX3.out ?_
          refine wpAnyH_take (i := 5) (v := (.bool true)) rfl (by kernel_rfl) (by kernel_rfl) (by kernel_rfl) (fun _ _ _ h => h) (.inl ⟨by go_simp, fun w' hS => by go_simp⟩) UX3.out ?_
          refine wpAnyH_take (i := 6) (v := (.bool false)) rfl (by kernel_rfl) (by kernel_rfl) (by kernel_rfl) (fun _ _ _ h => h) (.inl ⟨by go_simp, fun w' hS => by go_simp⟩) UX3.out ?_
          refine wpAnyH_take (i := 7) (v := (.bool false)) rfl (by kernel_rfl) (by kernel_rfl) (by kernel_rfl) (fun _ _ _ h => h) (.inl ⟨rfl, fun w' hS => by go_simp⟩) UX3.out ?_
          refine wpAnyH_take (i := 8) (v := (.bool false)) rfl (by kernel_rfl) (by kernel_rfl) (by kernel_rfl) (fun _ _ _ h => h) (.inl ⟨rfl, fun w' hS => by go_simp⟩) UX3.out ?_
          refine wpAnyH_take (i := 9) (v := (.bool true)) rfl (by kernel_rfl) (by kernel_rfl) (by kernel_rfl) (fun _ _ _ h => h) (.inl ⟨by go_simp, fun w' hS => by go_simp⟩) UX3.out ?_
          refine wpAnyH_take (i := 10) (v := (.bool true)) rfl (by kernel_rfl) (by kernel_rfl) (by kernel_rfl) (fun _ _ _ h => h) (.inl ⟨by go_simp, fun w' hS => by go_simp⟩) UX3.out ?_
          refine wpAnyH_take (i := 11) (v := (.string cb)) rfl (by kernel_rfl) (by kernel_rfl) (by kernel_rfl) (fun _ _ _ h => h) (.inl ⟨by go_simp, fun w' hS => by go_simp⟩) UX3.out ?_
          refine wpAnyH_take (i := 12) (v := (.int .i64 y)) rfl (by kernel_rfl) (by kernel_rfl) (by kernel_rfl) (fun _ _ _ h => h) (.inl ⟨by go_simp, fun w' hS => by go_simp⟩) UX3.out ?_
          refine wpAnyH_take (i := 14) (v := (.agg #[.int .i64 m, .slice al sl.length cl])) rfl (by kernel_rfl) (by kernel_rfl) (by kernel_rfl) (fun _ _ _ h => h) (.inl ⟨by go_simp, fun w' hS => by have := hS.c0; have := hS.c1; go_simp⟩) UX3.out ?_
          have he6 := enters_of Tryz.func5 (by kernel_rfl) rfl
          have he7 := enters_of Tryz.func7 (by kernel_rfl) rfl
          refine held_one 13 (by kernel_rfl) ?_
          refine @op_wpW _ _ _ _ _ _ 13 ?ob4 ?hob4 ?hwb4 ?hhb4
          case hob4 => rfl
          case hwb4 => go_simp
          unfold Oper.wp
          go_simp
          refine (HDI2.out _).mono ?_
          rintro e u4 ⟨v4, rfl, ho4, hb4⟩
          have hb4' : Below u3.heap.size u3 u4 := ⟨hb4.os, hb4.tape, hb4.output, hb4.size, hb4.block⟩
          obtain ⟨a4, c4, rfl, _⟩ := row_form ho4
          have UX4 := hid (UX3.out.below hb4')
          have UR4 := hid (UR3.out.below hb4')
          have UB4 := hid (UB3.out.trans (hb4'.mono UB3.out.size))
          have UV4 := hid (Reads.of_row ho4)
          clear ho4 hb4 hb4' UX3 UR3 UB3
          refine ⟨UX4.out, ?_⟩
          refine held_one 15 (by kernel_rfl) ?_
          refine @op_wpW _ _ _ _ _ _ 15 ?oc5 ?hoc5 ?hwc5 ?hhc5
          case hoc5 => rfl
          case hwc5 => go_simp
          unfold Oper.wp
          go_simp
          refine (wList_any m _ _ sl _ UV4.out UR4.out (by unfold maxLen; omega)).mono ?_
          rintro e u5 ⟨rfl, hb5⟩
          have UX3 := hid (UX4.out.below hb5)
          have UB5 := hid (UB4.out.trans (hb5.mono UB4.out.size))
          clear hb5 UX4 UR4 UB4 UV4
          refine ⟨UX3.out, ?_⟩
          refine wpAnyH_take (i := 16) (v := (.bool false)) rfl (by kernel_rfl) (by kernel_rfl) (by kernel_rfl) (fun _ _ _ h => h) (.inl ⟨by go_simp, fun w' hS => by go_simp⟩) UX3.out ?_
          refine wpAnyH_take (i := 17) (v := (.bool false)) rfl (by kernel_rfl) (by kernel_rfl) (by kernel_rfl) (fun _ _ _ h => h) (.inl ⟨by go_simp, fun w' hS => by go_simp⟩) UX3.out ?_
          refine wpAnyH_take (i := 18) (v := (.bool false)) rfl (by kernel_rfl) (by kernel_rfl) (by kernel_rfl) (fun _ _ _ h => h) (.inl ⟨rfl, fun w' hS => by go_simp⟩) UX3.out ?_
          refine wpAnyH_done (by kernel_rfl) ?_ _
          go_simp
          have HBD : Hid (Below w.heap.size w u5) := UB5.out
          clear UX3 UB5 he6 he7
          go_wp2_with fail
          refine (drawReadList_any a n cap zs _ (HIN.out.below HBD.out) hn).mono ?_
          rintro e x1 ⟨uu, yy, rfl, huu, hbx1⟩
          have XB1 := hid (HBD.out.trans (hbx1.mono HBD.out.size))
          clear hbx1 HBD
          go_wp2_with fail
          refine (implReadList_any uu yy _ (by omega) (HE.out.below XB1.out)).mono ?_
          rintro e x2 ⟨vx, nx, sx, okx, rfl, hrx, hox, hbx2⟩
          have XB2 := hid (XB1.out.trans (hbx2.mono XB1.out.size))
          obtain ⟨ax, cx, rfl, _⟩ := row_form hox
          have XX2 := hid (lbox_at x2 nx (.slice ax sx.length cx))
          have XR2 := hid (Reads.of_row (hox.alloc (.cells #[.int .i64 nx, .slice ax sx.length cx] 27)))
          have XB3 := hid (XB2.out.alloc XB2.out.size (.cells #[.int .i64 nx, .slice ax sx.length cx] 27))
          have hsx := hrx.len3
          have HRX := hid hrx
          clear hox hbx2 hrx XB1 XB2
          go_wp2_with fail
          refine (specReadList_any uu yy _ (by unfold maxLen; omega)).mono ?_
          intro e x3 ha3
          obtain ⟨v3, rfl, ho3, hb3⟩ := ReadA.known2 HRX.out ha3
          obtain ⟨a3, c3, rfl, _⟩ := row_form ho3
          have XX4 := (XX2.out.below hb3).alloc (.cells #[.int .i64 nx, .slice a3 sx.length c3] 27)
          have XR4 := hid ((XR2.out.below hb3).below ((Below.refl x3.heap.size x3).alloc (Nat.le_refl _) (.cells #[.int .i64 nx, .slice a3 sx.length c3] 27)))
          have XB4 := hid ((XB3.out.trans (hb3.mono XB3.out.size)).alloc (by have := XB3.out.size; have := hb3.size; omega) (.cells #[.int .i64 nx, .slice a3 sx.length c3] 27))
          have n0 := XX4.c0
          have n1 := XX4.c1
          clear ho3 hb3 ha3 XX2 XR2 XB3 XX4
          cases okx with
          | false =>
            go_wp2
            go_ret
            exact ⟨by simp, XB4.out⟩
          | true =>
            obtain ⟨hfx, hzx⟩ := HRX.out.form3
            have HFX := hid (implFormList_any nx (.slice ax sx.length cx) sx yy _ XR4.out (by unfold maxLen; omega) (fun i => by have := getD_small hzx i; unfold maxLen; omega) (HE.out.below XB4.out).tab)
            rw [hfx] at HFX
            clear hfx hzx
            go_wp2_with (go_at_call 6; refine HFX.out.mono ?_; rintro e x5 ⟨rfl, hb5⟩; have XB5 := hid (XB4.out.trans (hb5.mono XB4.out.size)); clear hb5)
            go_ret
            exact ⟨by simp, XB5.out⟩
      · have hne : (fr.toList == []) = false := by
          have := data_ne h0
          rw [ByteArray.toList_eq]
          simpa using this
        have ht3 : ¬ ((t.size : Int) ≤ 3000) := by omega
        go_wp2_with fail
        refine (drawBuild_any a n cap zs _ (HIN.out.below HBC.out) hn).mono ?_
        rintro e u1 ⟨m, vl, vp, sl, pp, y, rfl, hr1, hr2, hl1, hl2, hz1, hz2, hbu1⟩
        obtain ⟨al, cl, rfl, _⟩ := hr1.form
        obtain ⟨ap, cp, rfl, _⟩ := hr2.form
        have hua := (Below.refl u1.heap.size u1).alloc (Nat.le_refl _) (.cells #[.int .i64 m, .slice al sl.length cl] 27)
        have UR1 := hid (hr1.below hua)
        have UP1 := hid (hr2.below hua)
        have UX1 := hid (lbox_at u1 m (.slice al sl.length cl))
        have UB1 := hid ((HBC.out.trans (hbu1.mono HBC.out.size)).alloc (by have := HBC.out.size; have := hbu1.size; omega) (.cells #[.int .i64 m, .slice al sl.length cl] 27))
        have HBI2 := hid fun W (h1 : Reads W (.slice al sl.length cl) sl) (h2 : Reads W (.slice ap pp.length cp) pp) => implBuild_any m (.slice al sl.length cl) (.slice ap pp.length cp) sl pp y W h1 h2 (by unfold maxLen; omega) (by unfold maxLen; omega) (fun i => by have := getD_small hz1 i; unfold maxLen; omega) (fun i => by have := getD_small hz2 i; unfold maxLen; omega)
        have HBS2 := hid fun W (h1 : Reads W (.slice al sl.length cl) sl) (h2 : Reads W (.slice ap pp.length cp) pp) => specBuild_any m (.slice al sl.length cl) (.slice ap pp.length cp) sl pp y W h1 h2 (by unfold maxLen; omega) (by unfold maxLen; omega) (fun i => by have := getD_small hz1 i; unfold maxLen; omega) (fun i => by have := getD_small hz2 i; omega)
        have HBK := hid fun h => build_back (n := m) (m := y) (ss := sl) (ps := pp) h
        have HDI2 := hid fun W => implDescribe_any (catB pp) y W
        have HRB : Hid (buildR m sl pp y = if buildOk m sl pp y then .tuple #[.string (catB pp), .bool true] else .tuple #[.string ⟨#[]⟩, .bool false]) := rfl
        clear hr1 hr2 hz1 hz2 hbu1 hua HBC
        generalize buildR m sl pp y = br at *
        generalize catB pp = cb at *
        have hu0 := UX1.out.c0
        have hu1 := UX1.out.c1
        go_wp2_with fail
        refine (HBI2.out _ UR1.out UP1.out).mono ?_
        rintro e u2 ⟨rfl, hb2⟩
        have UX2 := hid (UX1.out.below hb2)
        have UR2 := hid (UR1.out.below hb2)
        have UP2 := hid (UP1.out.below hb2)
        have UB2 := hid (UB1.out.trans (hb2.mono UB1.out.size))
        clear hb2 hu0 hu1 UX1 UR1 UP1 UB1
        have hu0 := UX2.out.c0
        have hu1 := UX2.out.c1
        cases hbo : buildOk m sl pp y with
        | false =>
          obtain rfl : br = .tuple #[.string ⟨#[]⟩, .bool false] := by rw [HRB.out, hbo]; rfl
          go_wp2_with fail
          refine (HBS2.out _ UR2.out UP2.out).mono ?_
          rintro e u3 ⟨rfl, hb3⟩
          have UX3 := hid (UX2.out.below hb3)
          have UB3 := hid (UB2.out.trans (hb3.mono UB2.out.size))
          clear hb3 hu0 hu1 UX2 UR2 UP2 UB2 HBI2 HBS2 HBK HDI2 HRB hbo
          go_wp2_with fail
          refine wp_region_held (S := fun w' => LBox w' u1.heap.size m (.slice al sl.length cl)) (by kernel_rfl) ?_
          change wpAnyH _ _ _ _ _ _ _ _ (World.drew _)
          refine wpAnyH_take (i := 0) (v := (.string ⟨#[]⟩)) rfl (by kernel_rfl) (by kernel_rfl) (by kernel_rfl) (fun _ _ _ h => h) (.inl ⟨rfl, fun w' hS => by go_simp⟩) UX3.out ?_
          refine wpAnyH_take (i := 1) (v := (.string ⟨#[]⟩)) rfl (by kernel_rfl) (by kernel_rfl) (by kernel_rfl) (fun _ _ _ h => h) (.inl ⟨rfl, fun w' hS => by go_simp⟩) UX3.out ?_
          refine wpAnyH_take (i := 2) (v := (.bool false)) rfl (by kernel_rfl) (by kernel_rfl) (by kernel_rfl) (fun _ _ _ h => h) (.inl ⟨rfl, fun w' hS => by go_simp⟩) UX3.out ?_
          refine wpAnyH_take (i := 3) (v := (.bool false)) rfl (by kernel_rfl) (by kernel_rfl) (by kernel_rfl) (fun _ _ _ h => h) (.inl ⟨rfl, fun w' hS => by go_simp⟩) UX3.out ?_
          refine wpAnyH_take (i := 4) (v := (.bool false)) rfl (by kernel_rfl) (by kernel_rfl) (by kernel_rfl) (fun _ _ _ h => h) (.inl ⟨by go_simp, fun w' hS => by go_simp⟩) UX3.out ?_
          refine wpAnyH_take (i := 5) (v := (.bool false)) rfl (by kernel_rfl) (by kernel_rfl) (by kernel_rfl) (fun _ _ _ h => h) (.inl ⟨by go_simp, fun w' hS => by go_simp⟩) UX3.out ?_
          refine wpAnyH_take (i := 6) (v := (.bool false)) rfl (by kernel_rfl) (by kernel_rfl) (by kernel_rfl) (fun _ _ _ h => h) (.inl ⟨by go_simp, fun w' hS => by go_simp⟩) UX3.out ?_
          refine wpAnyH_take (i := 7) (v := (.bool false)) rfl (by kernel_rfl) (by kernel_rfl) (by kernel_rfl) (fun _ _ _ h => h) (.inl ⟨rfl, fun w' hS => by go_simp⟩) UX3.out ?_
          refine wpAnyH_take (i := 8) (v := (.bool false)) rfl (by kernel_rfl) (by kernel_rfl) (by kernel_rfl) (fun _ _ _ h => h) (.inl ⟨rfl, fun w' hS => by go_simp⟩) UX3.out ?_
          refine wpAnyH_take (i := 9) (v := (.bool false)) rfl (by kernel_rfl) (by kernel_rfl) (by kernel_rfl) (fun _ _ _ h => h) (.inl ⟨by go_simp, fun w' hS => by go_simp⟩) UX3.out ?_
          refine wpAnyH_take (i := 10) (v := (.bool false)) rfl (by kernel_rfl) (by kernel_rfl) (by kernel_rfl) (fun _ _ _ h => h) (.inl ⟨by go_simp, fun w' hS => by go_simp⟩) UX3.out ?_
          refine wpAnyH_take (i := 11) (v := undef) rfl (by kernel_rfl) (by kernel_rfl) (by kernel_rfl) (fun _ _ _ h => h) (.inr ⟨by go_simp, rfl⟩) UX3.out ?_
          refine wpAnyH_take (i := 12) (v := undef) rfl (by kernel_rfl) (by kernel_rfl) (by kernel_rfl) (fun _ _ _ h => h) (.inr ⟨by go_simp, rfl⟩) UX3.out ?_
          refine wpAnyH_take (i := 13) (v := undef) rfl (by kernel_rfl) (by kernel_rfl) (by kernel_rfl) (fun _ _ _ h => h) (.inr ⟨by go_simp, rfl⟩) UX3.out ?_
          refine wpAnyH_take (i := 14) (v := undef) rfl (by kernel_rfl) (by kernel_rfl) (by kernel_rfl) (fun _ _ _ h => h) (.inr ⟨by go_simp, rfl⟩) UX3.out ?_
          refine wpAnyH_take (i := 15) (v := undef) rfl (by kernel_rfl) (by kernel_rfl) (by kernel_rfl) (fun _ _ _ h => h) (.inr ⟨by go_simp, rfl⟩) UX3.out ?_
          refine wpAnyH_take (i := 16) (v := undef) rfl (by kernel_rfl) (by kernel_rfl) (by kernel_rfl) (fun _ _ _ h => h) (.inr ⟨by go_simp, rfl⟩) UX3.out ?_
          refine wpAnyH_take (i := 17) (v := (.bool false)) rfl (by kernel_rfl) (by kernel_rfl) (by kernel_rfl) (fun _ _ _ h => h) (.inl ⟨by go_simp, fun w' hS => by go_simp⟩) UX3.out ?_
          refine wpAnyH_take (i := 18) (v := (.bool false)) rfl (by kernel_rfl) (by kernel_rfl) (by kernel_rfl) (fun _ _ _ h => h) (.inl ⟨rfl, fun w' hS => by go_simp⟩) UX3.out ?_
          refine wpAnyH_done (by kernel_rfl) ?_ _
          go_simp
          have HBD : Hid (Below w.heap.size w u3.drew) := UB3.out.drew
          clear UX3 UB3
          go_wp2_with fail
          refine (drawReadList_any a n cap zs _ (HIN.out.below HBD.out) hn).mono ?_
          rintro e x1 ⟨uu, yy, rfl, huu, hbx1⟩
          have XB1 := hid (HBD.out.trans (hbx1.mono HBD.out.size))
          clear hbx1 HBD
          go_wp2_with fail
          refine (implReadList_any uu yy _ (by omega) (HE.out.below XB1.out)).mono ?_
          rintro e x2 ⟨vx, nx, sx, okx, rfl, hrx, hox, hbx2⟩
          have XB2 := hid (XB1.out.trans (hbx2.mono XB1.out.size))
          obtain ⟨ax, cx, rfl, _⟩ := row_form hox
          have XX2 := hid (lbox_at x2 nx (.slice ax sx.length cx))
          have XR2 := hid (Reads.of_row (hox.alloc (.cells #[.int .i64 nx, .slice ax sx.length cx] 27)))
          have XB3 := hid (XB2.out.alloc XB2.out.size (.cells #[.int .i64 nx, .slice ax sx.length cx] 27))
          have hsx := hrx.len3
          have HRX := hid hrx
          clear hox hbx2 hrx XB1 XB2
          go_wp2_with fail
          refine (specReadList_any uu yy _ (by unfold maxLen; omega)).mono ?_
          intro e x3 ha3
          obtain ⟨v3, rfl, ho3, hb3⟩ := ReadA.known2 HRX.out ha3
          obtain ⟨a3, c3, rfl, _⟩ := row_form ho3
          have XX4 := (XX2.out.below hb3).alloc (.cells #[.int .i64 nx, .slice a3 sx.length c3] 27)
          have XR4 := hid ((XR2.out.below hb3).below ((Below.refl x3.heap.size x3).alloc (Nat.le_refl _) (.cells #[.int .i64 nx, .slice a3 sx.length c3] 27)))
          have XB4 := hid ((XB3.out.trans (hb3.mono XB3.out.size)).alloc (by have := XB3.out.size; have := hb3.size; omega) (.cells #[.int .i64 nx, .slice a3 sx.length c3] 27))
          have n0 := XX4.c0
          have n1 := XX4.c1
          clear ho3 hb3 ha3 XX2 XR2 XB3 XX4
          cases okx with
          | false =>
            go_wp2
            go_ret
            exact ⟨by simp, XB4.out⟩
          | true =>
            obtain ⟨hfx, hzx⟩ := HRX.out.form3
            have HFX := hid (implFormList_any nx (.slice ax sx.length cx) sx yy _ XR4.out (by unfold maxLen; omega) (fun i => by have := getD_small hzx i; unfold maxLen; omega) (HE.out.below XB4.out).tab)
            rw [hfx] at HFX
            clear hfx hzx
            go_wp2_with (go_at_call 6; refine HFX.out.mono ?_; rintro e x5 ⟨rfl, hb5⟩; have XB5 := hid (XB4.out.trans (hb5.mono XB4.out.size)); clear hb5)
            go_ret
            exact ⟨by simp, XB5.out⟩
        | true =>
          obtain rfl : br = .tuple #[.string cb, .bool true] := by rw [HRB.out, hbo]; rfl
          obtain ⟨hbn, hbs⟩ := HBK.out hbo
          rw [hbn, hbs] at HDI2
          go_wp2_with fail
          refine (HBS2.out _ UR2.out UP2.out).mono ?_
          rintro e u3 ⟨rfl, hb3⟩
          have UX3 := hid (UX2.out.below hb3)
          have UR3 := hid (UR2.out.below hb3)
          have UB3 := hid (UB2.out.trans (hb3.mono UB2.out.size))
          clear hb3 hu0 hu1 UX2 UR2 UP2 UB2 HBI2 HBS2 HBK HRB hbo hbn hbs
          go_wp2_with fail
          refine wp_region_held (S := fun w' => LBox w' u1.heap.size m (.slice al sl.length cl)) (by kernel_rfl) ?_
          change wpAnyH _ _ _ _ _ _ _ _ (World.drew _)
          refine wpAnyH_take (i := 0) (v := (.string cb)) rfl (by kernel_rfl) (by kernel_rfl) (by kernel_rfl) (fun _ _ _ h => h) (.inl ⟨rfl, fun w' hS => by go_simp⟩) UX3.out ?_
          refine wpAnyH_take (i := 1) (v := (.string cb)) rfl (by kernel_rfl) (by kernel_rfl) (by kernel_rfl) (fun _ _ _ h => h) (.inl ⟨rfl, fun w' hS => by go_simp⟩) UX3.out ?_
          refine wpAnyH_take (i := 2) (v := (.bool false)) rfl (by kernel_rfl) (by kernel_rfl) (by kernel_rfl) (fun _ _ _ h => h) (.inl ⟨rfl, fun w' hS => by go_simp⟩) UX3.out ?_
          refine wpAnyH_take (i := 3) (v := (.bool false)) rfl (by kernel_rfl) (by kernel_rfl) (by kernel_rfl) (fun _ _ _ h => h) (.inl ⟨rfl, fun w' hS => by go_simp⟩) UX3.out ?_
          refine wpAnyH_take (i := 4) (v := (.bool true)) rfl (by kernel_rfl) (by kernel_rfl) (by kernel_rfl) (fun _ _ _ h => h) (.inl ⟨by go_simp, fun w' hS => by go_simp⟩) UX3.out ?_
          refine wpAnyH_take (i := 5) (v := (.bool true)) rfl (by kernel_rfl) (by kernel_rfl) (by kernel_rfl) (fun _ _ _ h => h) (.inl ⟨by go_simp, fun w' hS => by go_simp⟩) UX3.out ?_
          refine wpAnyH_take (i := 6) (v := (.bool false)) rfl (by kernel_rfl) (by kernel_rfl) (by kernel_rfl) (fun _ _ _ h => h) (.inl ⟨by go_simp, fun w' hS => by go_simp⟩) UX3.out ?_
          refine wpAnyH_take (i := 7) (v := (.bool false)) rfl (by kernel_rfl) (by kernel_rfl) (by kernel_rfl) (fun _ _ _ h => h) (.inl ⟨rfl, fun w' hS => by go_simp⟩) UX3.out ?_
          refine wpAnyH_take (i := 8) (v := (.bool false)) rfl (by kernel_rfl) (by kernel_rfl) (by kernel_rfl) (fun _ _ _ h => h) (.inl ⟨rfl, fun w' hS => by go_simp⟩) UX3.out ?_
          refine wpAnyH_take (i := 9) (v := (.bool true)) rfl (by kernel_rfl) (by kernel_rfl) (by kernel_rfl) (fun _ _ _ h => h) (.inl ⟨by go_simp, fun w' hS => by go_simp⟩) UX3.out ?_
          refine wpAnyH_take (i := 10) (v := (.bool true)) rfl (by kernel_rfl) (by kernel_rfl) (by kernel_rfl) (fun _ _ _ h => h) (.inl ⟨by go_simp, fun w' hS => by go_simp⟩) UX3.out ?_
          refine wpAnyH_take (i := 11) (v := (.string cb)) rfl (by kernel_rfl) (by kernel_rfl) (by kernel_rfl) (fun _ _ _ h => h) (.inl ⟨by go_simp, fun w' hS => by go_simp⟩) UX3.out ?_
          refine wpAnyH_take (i := 12) (v := (.int .i64 y)) rfl (by kernel_rfl) (by kernel_rfl) (by kernel_rfl) (fun _ _ _ h => h) (.inl ⟨by go_simp, fun w' hS => by go_simp⟩) UX3.out ?_
          refine wpAnyH_take (i := 14) (v := (.agg #[.int .i64 m, .slice al sl.length cl])) rfl (by kernel_rfl) (by kernel_rfl) (by kernel_rfl) (fun _ _ _ h => h) (.inl ⟨by go_simp, fun w' hS => by have := hS.c0; have := hS.c1; go_simp⟩) UX3.out ?_
          have he6 := enters_of Tryz.func5 (by kernel_rfl) rfl
          have he7 := enters_of Tryz.func7 (by kernel_rfl) rfl
          refine held_one 13 (by kernel_rfl) ?_
          refine @op_wpW _ _ _ _ _ _ 13 ?ob6 ?hob6 ?hwb6 ?hhb6
          case hob6 => rfl
          case hwb6 => go_simp
          unfold Oper.wp
          go_simp
          refine (HDI2.out _).mono ?_
          rintro e u4 ⟨v4, rfl, ho4, hb4⟩
          have hb4' : Below u3.heap.size u3 u4 := ⟨hb4.os, hb4.tape, hb4.output, hb4.size, hb4.block⟩
          obtain ⟨a4, c4, rfl, _⟩ := row_form ho4
          have UX4 := hid (UX3.out.below hb4')
          have UR4 := hid (UR3.out.below hb4')
          have UB4 := hid (UB3.out.trans (hb4'.mono UB3.out.size))
          have UV4 := hid (Reads.of_row ho4)
          clear ho4 hb4 hb4' UX3 UR3 UB3
          refine ⟨UX4.out, ?_⟩
          refine held_one 15 (by kernel_rfl) ?_
          refine @op_wpW _ _ _ _ _ _ 15 ?oc7 ?hoc7 ?hwc7 ?hhc7
          case hoc7 => rfl
          case hwc7 => go_simp
          unfold Oper.wp
          go_simp
          refine (wList_any m _ _ sl _ UV4.out UR4.out (by unfold maxLen; omega)).mono ?_
          rintro e u5 ⟨rfl, hb5⟩
          have UX3 := hid (UX4.out.below hb5)
          have UB5 := hid (UB4.out.trans (hb5.mono UB4.out.size))
          clear hb5 UX4 UR4 UB4 UV4
          refine ⟨UX3.out, ?_⟩
          refine wpAnyH_take (i := 16) (v := (.bool false)) rfl (by kernel_rfl) (by kernel_rfl) (by kernel_rfl) (fun _ _ _ h => h) (.inl ⟨by go_simp, fun w' hS => by go_simp⟩) UX3.out ?_
          refine wpAnyH_take (i := 17) (v := (.bool false)) rfl (by kernel_rfl) (by kernel_rfl) (by kernel_rfl) (fun _ _ _ h => h) (.inl ⟨by go_simp, fun w' hS => by go_simp⟩) UX3.out ?_
          refine wpAnyH_take (i := 18) (v := (.bool false)) rfl (by kernel_rfl) (by kernel_rfl) (by kernel_rfl) (fun _ _ _ h => h) (.inl ⟨rfl, fun w' hS => by go_simp⟩) UX3.out ?_
          refine wpAnyH_done (by kernel_rfl) ?_ _
          go_simp
          have HBD : Hid (Below w.heap.size w u5) := UB5.out
          clear UX3 UB5 he6 he7
          go_wp2_with fail
          refine (drawReadList_any a n cap zs _ (HIN.out.below HBD.out) hn).mono ?_
          rintro e x1 ⟨uu, yy, rfl, huu, hbx1⟩
          have XB1 := hid (HBD.out.trans (hbx1.mono HBD.out.size))
          clear hbx1 HBD
          go_wp2_with fail
          refine (implReadList_any uu yy _ (by omega) (HE.out.below XB1.out)).mono ?_
          rintro e x2 ⟨vx, nx, sx, okx, rfl, hrx, hox, hbx2⟩
          have XB2 := hid (XB1.out.trans (hbx2.mono XB1.out.size))
          obtain ⟨ax, cx, rfl, _⟩ := row_form hox
          have XX2 := hid (lbox_at x2 nx (.slice ax sx.length cx))
          have XR2 := hid (Reads.of_row (hox.alloc (.cells #[.int .i64 nx, .slice ax sx.length cx] 27)))
          have XB3 := hid (XB2.out.alloc XB2.out.size (.cells #[.int .i64 nx, .slice ax sx.length cx] 27))
          have hsx := hrx.len3
          have HRX := hid hrx
          clear hox hbx2 hrx XB1 XB2
          go_wp2_with fail
          refine (specReadList_any uu yy _ (by unfold maxLen; omega)).mono ?_
          intro e x3 ha3
          obtain ⟨v3, rfl, ho3, hb3⟩ := ReadA.known2 HRX.out ha3
          obtain ⟨a3, c3, rfl, _⟩ := row_form ho3
          have XX4 := (XX2.out.below hb3).alloc (.cells #[.int .i64 nx, .slice a3 sx.length c3] 27)
          have XR4 := hid ((XR2.out.below hb3).below ((Below.refl x3.heap.size x3).alloc (Nat.le_refl _) (.cells #[.int .i64 nx, .slice a3 sx.length c3] 27)))
          have XB4 := hid ((XB3.out.trans (hb3.mono XB3.out.size)).alloc (by have := XB3.out.size; have := hb3.size; omega) (.cells #[.int .i64 nx, .slice a3 sx.length c3] 27))
          have n0 := XX4.c0
          have n1 := XX4.c1
          clear ho3 hb3 ha3 XX2 XR2 XB3 XX4
          cases okx with
          | false =>
            go_wp2
            go_ret
            exact ⟨by simp, XB4.out⟩
          | true =>
            obtain ⟨hfx, hzx⟩ := HRX.out.form3
            have HFX := hid (implFormList_any nx (.slice ax sx.length cx) sx yy _ XR4.out (by unfold maxLen; omega) (fun i => by have := getD_small hzx i; unfold maxLen; omega) (HE.out.below XB4.out).tab)
            rw [hfx] at HFX
            clear hfx hzx
            go_wp2_with (go_at_call 6; refine HFX.out.mono ?_; rintro e x5 ⟨rfl, hb5⟩; have XB5 := hid (XB4.out.trans (hb5.mono XB4.out.size)); clear hb5)
            go_ret
            exact ⟨by simp, XB5.out⟩
end Go.Proofs.YtfamkeligbiidaaGreatDoor
