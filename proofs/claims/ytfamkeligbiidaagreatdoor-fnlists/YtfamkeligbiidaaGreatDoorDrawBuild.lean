/- DrawBuild draws a list, pieces and a width. -/
import Derived.Test.YtfamkeligbiidaaGreatDoorSpoil
import Derived.Test.YtfamkeligbiidaaGreatDoorNumber
namespace Go.Proofs.YtfamkeligbiidaaGreatDoor
open Go.RowKit
theorem reads_set {W : World} {v : Value} {ss : List ByteArray} {b : Nat} {n : Int} {a0 : Option Addr} {k0 c0 : Nat} (h : Reads W v ss) (hb : LBox W b n (.slice a0 k0 c0)) (off : Nat) (u : Value) : Reads (W.setCell ⟨b, off, none⟩ u) v ss := by
  rcases h with h | ⟨g, o, c, e, hg, hc⟩
  · exact .inl h
  · have hne : 0 < ss.length → g ≠ b := fun hl eg => by
      subst eg
      have h0 := hc 0 hl
      simp only [Nat.add_zero] at h0
      unfold LBox at hb
      have := cellOf (k := o) hb
      rw [this] at h0
      match o with
      | 0 => simp at h0
      | 1 => simp at h0
      | o + 2 => simp at h0
    have hgr := grownBy_setCellAt W b off u
    refine .inr ⟨g, o, c, e, Nat.lt_of_lt_of_le hg hgr.size, fun j hj => ?_⟩
    exact (hgr.cell_far ⟨g, o + j, none⟩ hg (fun e => hne (by omega) (by cases e; rfl))).trans (hc j hj)
theorem LBox.low {W W' : World} {b B : Nat} {n : Int} {v : Value} (h : LBox W b n v) (hb : Below B W W') (hB : b < B) : LBox W' b n v := (hb.block b hB).trans h
theorem reads_store {W : World} {b1 g k : Nat} {v : Value} {ds : List ByteArray} {u : Value} (hv : W.ownsRow b1 9 1 v ds.length (ds.map Value.string)) (hne : v.ownBlock ≠ some g) (hg : W.grownBy (W.setCell ⟨g, k, none⟩ u) (some g)) : Reads (W.setCell ⟨g, k, none⟩ u) v ds :=
  Reads.of_row (hv.kept hg (.inr hne))
theorem reads_put {W : World} {base n : Nat} {v : Value} {L : List ByteArray} (h : W.ownsRow base 9 1 v n (L.map Value.string)) (hn : n = L.length) : Reads W v L := by
  subst hn
  exact Reads.of_row h
theorem specSum2 (p : ByteArray) (z : Int) (W : World) (h : p.size ≤ maxLen) : Calls Tryz.prog 32 #[.string p, .int .i64 z] W fun e w' => e = .returned (.string (sumT z p)) ∧ Below W.heap.size W w' := specSum_any p z W h
theorem two_strings (w : World) (s t : ByteArray) : Reads (w.alloc (.cells #[.string s, .string t] 9)) (.slice (some ⟨w.heap.size, 0, none⟩) 2 2) [s, t] := by
  refine .inr ⟨w.heap.size, 0, 2, rfl, by simp, fun j hj => ?_⟩
  rw [cellOf (World.alloc_heap_new w _)]
  obtain rfl | rfl : j = 0 ∨ j = 1 := by simp at hj; omega
  · rfl
  · rfl
theorem pieces_small (t : ByteArray) : ∀ s ∈ piecesOf t, s.size ≤ 14001 := fun s hs => by
  have := piecesOf_size t s hs
  omega
theorem desc_small (t : ByteArray) (z : Int) : ∀ s ∈ descS t z, s.size ≤ 10000 := by
  intro x hx
  unfold descS at hx
  split at hx
  · obtain ⟨p, _, rfl⟩ := List.mem_map.1 hx
    have := sumT_size z p
    omega
  · simp at hx
theorem desc_len4 (t : ByteArray) (z : Int) (h : t.size ≤ 3000) : (descS t z).length ≤ 400 := by
  unfold descS
  split
  · rw [List.length_map]
    have := piecesOf_len375 t h
    omega
  · simp
theorem desc_num (t : ByteArray) (z : Int) (h : t.size ≤ 3000) : 0 ≤ descN t z ∧ descN t z ≤ 100000 := by
  unfold descN
  split <;> omega
theorem set_sizes {ps : List ByteArray} {k : Nat} {t : ByteArray} (h : ∀ s ∈ ps, s.size ≤ 14001) (ht : t.size ≤ 14001) : ∀ s ∈ ps.set k t, s.size ≤ 14001 := fun s hs => by
  rcases List.mem_or_eq_of_mem_set hs with h1 | h1
  · exact h s h1
  · rw [h1]; exact ht
/-- What l3Spoil is asked for. -/
def SpoilsWell : Prop := ∀ (rb : Nat) (a : Option Addr) (nn cap : Nat) (bs : List Int) (p : Nat) (n : Int) (v : Value) (ss : List ByteArray) (b2 : Nat) (w : World), Rd w rb a nn cap bs p → p ≤ 800000 → w.ownsRow b2 9 1 v ss.length (ss.map Value.string) → ss.length ≤ 400 → (0 ≤ n ∧ n ≤ 100000) → (∀ s ∈ ss, s.size ≤ 10000) →
    Calls Tryz.prog 44 #[.pointer (some ⟨rb, 0, none⟩), .agg #[.int .i64 n, v]] w fun e w' => ∃ (n' : Int) (v' : Value) (ss' : List ByteArray), e = .returned (.agg #[.int .i64 n', v']) ∧ Reads w' v' ss' ∧ ss'.length ≤ 1000 ∧ (∀ s ∈ ss', s.size ≤ 10000) ∧ w.grownBy w' (some rb)
set_option maxRecDepth 100000 in
set_option maxHeartbeats 4000000 in
theorem drawBuild_of (HSPL : SpoilsWell) (a : Option Addr) (n cap : Nat) (zs : List Int) (w : World) (h : BytesIn w a n cap zs) (hn : n ≤ maxLen) :
    Calls Tryz.prog 13 #[.slice a n cap] w fun e w' => ∃ (m : Int) (v vp : Value) (ss ps : List ByteArray) (z : Int), e = .returned (.tuple #[.agg #[.int .i64 m, v], vp, .int .i64 z]) ∧ Reads w' v ss ∧ Reads w' vp ps ∧ ss.length ≤ 3000 ∧ ps.length ≤ 3000 ∧ (∀ s ∈ ss, s.size ≤ 10000) ∧ (∀ s ∈ ps, s.size ≤ 14001) ∧ Below w.heap.size w w' := by
  have hb0 := (Below.refl w.heap.size w).alloc (Nat.le_refl _) (.cells #[.int .i64 0, .slice none 0 0] 27)
  have hr0 : LBox (w.alloc (.cells #[.int .i64 0, .slice none 0 0] 27)) w.heap.size 0 (.slice none 0 0) := World.alloc_heap_new w _
  have HO := hid (l1Open_any a n cap zs (w.alloc (.cells #[.int .i64 0, .slice none 0 0] 27)) (h.below hb0) hn)
  have HB0 := hid hb0
  have HR0 := hid hr0
  clear h hb0 hr0
  go_enter Tryz.func13, Tryz.ntmps13
  go_wp2_with fail
  refine HO.out.mono ?_
  rw [World.size_alloc]
  rintro e w1 ⟨rfl, nn, bs, hr1, hb1⟩
  have HP := hid fun (q : Nat) (n : Int) (W : World) (hr : Rd W (w.heap.size + 1) a nn cap bs q) (h1 : 1 ≤ n) (h2 : n ≤ 100000) (hq : q ≤ 1000000) => pick_any (w.heap.size + 1) a nn cap bs q n W hr h1 h2 hq
  have HRd1 := hid hr1
  have HB1 := hid (HB0.out.trans (hb1.mono (Nat.le_succ _)))
  have HR1 := hid (HR0.out.low hb1 (Nat.lt_succ_self _))
  clear hr1 hb1 HB0 HR0 HO
  go_wp2_with fail
  refine (l1DrawWidth_any (w.heap.size + 1) a nn cap bs 0 _ HRd1.out (by omega)).mono ?_
  rintro e w2 ⟨z, rfl, hr2, hb2⟩
  have HRd2 := hid hr2
  have HB2 := hid (HB1.out.trans (hb2.mono (Nat.le_succ _)))
  have HR2 := hid (HR1.out.low hb2 (Nat.lt_succ_self _))
  clear hr2 hb2 HB1 HR1 HRd1
  go_wp2_with fail
  refine (l2Thing_any (w.heap.size + 1) a nn cap bs (0 + 1) _ HRd2.out (by omega)).mono ?_
  rintro e w3 ⟨t, rfl, ht, p3, hp3, hr3, hb3⟩
  have HRd3 := hid hr3
  have HB3 := hid (HB2.out.trans (hb3.mono (Nat.le_succ _)))
  have HR3 := hid (HR2.out.low hb3 (Nat.lt_succ_self _))
  clear hr3 hb3 HB2 HR2 HRd2
  have hdl := descS_len t z
  have hdl4 : (descS t z).length ≤ 400 := desc_len4 t z ht
  have hdn : 0 ≤ descN t z ∧ descN t z ≤ 100000 := desc_num t z ht
  have HZD := hid (desc_small t z)
  have HZP := hid (pieces_small t)
  have HZ7P : Hid (∀ s ∈ piecesOf t, s.size ≤ 7000) := fun s hs => by have := piecesOf_size t s hs; omega
  have hpl := piecesOf_len t
  have HD := hid fun W => specDescribe_any t z W (by unfold maxLen; omega)
  have HPC := hid fun W => specPieces_any t W (by unfold maxLen; omega)
  generalize descS t z = ds at *
  generalize descN t z = dn at *
  generalize piecesOf t = ps at *
  go_wp2_with fail
  refine (HD.out _).mono ?_
  rintro e w4 ⟨v4, rfl, ho4, hb4⟩
  obtain ⟨ad, cd, rfl, _⟩ := row_form ho4
  have HRd4 := hid (HRd3.out.keep (hb4.mono HRd3.out.lt))
  have HB4 := hid (HB3.out.trans (hb4.mono HB3.out.size))
  have HR4 := hid (HR3.out.below hb4)
  have HV4 := hid ho4
  have HVL : Hid (∀ g, (Value.slice ad ds.length cd).ownBlock = some g → g < w4.heap.size) := fun g e => (ho4.lt g e).2
  have hs4 := hb4.size
  have hl4 := HRd3.out.lt
  clear ho4 hb4 HB3 HR3 HRd3 HD
  go_wp2_with fail
  refine (HPC.out _).mono ?_
  rintro e w5 ⟨v5, rfl, ho5, hb5⟩
  rw [World.size_alloc] at ho5
  obtain ⟨ap, cp, rfl, hap⟩ := row_form ho5
  have HB8 := hid ((show LBox (w4.alloc (.cells #[.int .i64 dn, .slice ad ds.length cd] 27)) w4.heap.size dn (.slice ad ds.length cd) from World.alloc_heap_new w4 _).below hb5)
  have HRd5 := hid ((HRd4.out.keep ((Below.refl (w.heap.size + 1 + 1) w4).alloc HRd4.out.lt (.cells #[.int .i64 dn, .slice ad ds.length cd] 27))).keep (hb5.mono (by rw [World.size_alloc]; have := HRd4.out.lt; omega)))
  have HBW := hid ((HB4.out.alloc HB4.out.size (.cells #[.int .i64 dn, .slice ad ds.length cd] 27)).trans (hb5.mono (by rw [World.size_alloc]; have := HB4.out.size; omega)))
  have HR5 := hid ((HR4.out.alloc (.cells #[.int .i64 dn, .slice ad ds.length cd] 27)).below hb5)
  have HV5 := hid (Below.row hb5 (HV4.out.alloc (.cells #[.int .i64 dn, .slice ad ds.length cd] 27)))
  have HQ5 := hid ho5
  clear ho5 hb5 HB4 HR4 HV4 HPC
  have hb8 : w.heap.size + 1 < w4.heap.size := HRd4.out.lt
  clear HRd4
  generalize w4.heap.size = b8 at *
  go_wp2_with fail
  refine (HP.out p3 8 _ HRd5.out (by omega) (by omega) (by omega)).mono ?_
  rintro e w6 ⟨x, rfl, hx, hr6, hg6⟩
  have HG6 := hid hg6
  have HRd6 := hid hr6
  have HBW6 := hid (HBW.out.trans ((grown_below hg6 HRd5.out.lt).mono (Nat.le_succ _)))
  have HR2 := hid (HR5.out.grown hg6 (by simp))
  have HB6 := hid (HB8.out.grown hg6 (by have := box_rd_ne HRd5.out HB8.out; simpa using fun e => this e.symm))
  have HV6 := hid (HV5.out.kept hg6 (.inr (row_rd_ne HRd5.out HV5.out)))
  have HQ6 := hid (HQ5.out.kept hg6 (.inr (row_rd_ne HRd5.out HQ5.out)))
  clear hr6 hg6 HG6 HBW HR5 HB8 HV5 HQ5 HRd5
  have HB8 := HB6
  have HBW := HBW6
  clear HB6 HBW6
  have HX1 := hid (Reads.of_row HV6.out)
  have HX2 := hid (Reads.of_row HQ6.out)
  have hx5 : x = 0 ∨ x = 1 ∨ x = 2 ∨ x = 3 ∨ 4 ≤ x := by omega
  rcases hx5 with rfl | rfl | rfl | rfl | hx5
  · have b0 := HB8.out.c0
    have b1 := HB8.out.c1
    go_wp2_with fail
    refine (HSPL (w.heap.size + 1) a nn cap bs (p3 + 1) dn (.slice ad ds.length cd) ds _ _ HRd6.out (by omega) HV6.out hdl4 hdn HZD.out).mono ?_
    rintro e w7 ⟨n', v', ss', rfl, hrd7, hl7, hz7, hg7⟩
    obtain ⟨av', cv', rfl, _⟩ := hrd7.form
    have B7 := HB8.out.grown hg7 (by have := box_rd_ne HRd6.out HB8.out; simpa using fun e => this e.symm)
    have R7 := HR2.out.grown hg7 (by simp)
    have Q7 := Reads.of_row (HQ6.out.kept hg7 (.inr (row_rd_ne HRd6.out HQ6.out)))
    have W7 := HBW.out.trans ((grown_below hg7 HRd6.out.lt).mono (Nat.le_succ _))
    have B8 : LBox (w7.setCell ⟨b8, 0, none⟩ (.int .i64 n')) b8 n' (.slice ad ds.length cd) := LBox.set0 n' B7
    have HX1 := hid (reads_set (reads_set hrd7 B7 0 (.int .i64 n')) B8 1 (.slice av' ss'.length cv'))
    have HX2 := hid (reads_set (reads_set Q7 B7 0 (.int .i64 n')) B8 1 (.slice av' ss'.length cv'))
    have HZ7 := hid hz7
    have q0 := B7.c0
    have qf0 := B7.fz 0
    have q1 := B8.c1
    have qf1 := B8.fz 1
    have HRn := hid ((R7.grown (grownBy_setCellAt w7 b8 0 (.int .i64 n')) (by simp; omega)).grown (grownBy_setCellAt _ b8 1 (.slice av' ss'.length cv')) (by simp; omega))
    have HBn := hid (B8.set1 (.slice av' ss'.length cv'))
    have HWn := hid ((W7.setCell (p := ⟨b8, 0, none⟩) (by show w.heap.size ≤ b8; omega) (.int .i64 n')).setCell (p := ⟨b8, 1, none⟩) (by show w.heap.size ≤ b8; omega) (.slice av' ss'.length cv'))
    clear HB8 HR2 HBW B7 R7 Q7 W7 B8 hrd7 hz7 hg7 b0 b1
    have HB8 := HBn
    have HR2 := HRn
    have HBW := HWn
    have b0 := HB8.out.c0
    have b1 := HB8.out.c1
    have r0 := HR2.out.c0
    have rf0 := HR2.out.fz 0
    have y8 := LBox.set0 n' HR2.out
    have t1 := y8.c1
    have tf1 := y8.fz 1
    have y9 := y8.set1 (.slice av' ss'.length cv')
    have HQ1 := hid (reads_set (reads_set HX1.out HR2.out 0 (.int .i64 n')) y8 1 (.slice av' ss'.length cv'))
    have HQ2 := hid (reads_set (reads_set HX2.out HR2.out 0 (.int .i64 n')) y8 1 (.slice av' ss'.length cv'))
    clear y8
    go_wp2
    exact bodyPost_ret (v := .tuple #[.agg #[.int .i64 n', (.slice av' ss'.length cv')], (.slice ap ps.length cp), .int .i64 z]) (by simp [results, Tryz.results13, go_sem, y9.c0, y9.c1]) rfl ⟨n', (.slice av' ss'.length cv'), (.slice ap ps.length cp), ss', ps, z, rfl, HQ1.out, HQ2.out, by omega, by omega, HZ7.out, HZP.out, (HBW.out.setCell (p := ⟨w.heap.size, 0, none⟩) (Nat.le_refl _) _).setCell (p := ⟨w.heap.size, 1, none⟩) (Nat.le_refl _) _⟩
  · by_cases hl1 : 0 < ps.length
    · have hl1' : (0 : Int) < (ps.length : Int) := by omega
      obtain ⟨g, rfl, hgl⟩ := hap (by omega)
      obtain ⟨hcl, hcells⟩ := row_capcells HQ6.out
      have hgl6 := (HQ6.out.lt g rfl).2
      have hcap : (ps.length : Int) ≤ (cp : Int) := by omega
      by_cases hc1 : cp = 1
      · subst hc1
        have HX2n : Hid (Reads w6 (.slice (some ⟨g, 0, none⟩) 0 0) []) := .inl ⟨rfl, some ⟨g, 0, none⟩, 0, rfl⟩
        clear HX2 hcells
        have HX2 := HX2n
        have b0 := HB8.out.c0
        have b1 := HB8.out.c1
        have r0 := HR2.out.c0
        have rf0 := HR2.out.fz 0
        have y8 := LBox.set0 dn HR2.out
        have t1 := y8.c1
        have tf1 := y8.fz 1
        have y9 := y8.set1 (.slice ad ds.length cd)
        have HQ1 := hid (reads_set (reads_set HX1.out HR2.out 0 (.int .i64 dn)) y8 1 (.slice ad ds.length cd))
        have HQ2 := hid (reads_set (reads_set HX2.out HR2.out 0 (.int .i64 dn)) y8 1 (.slice ad ds.length cd))
        clear y8
        go_wp2
        exact bodyPost_ret (v := .tuple #[.agg #[.int .i64 dn, (.slice ad ds.length cd)], (.slice (some ⟨g, 0, none⟩) 0 0), .int .i64 z]) (by simp [results, Tryz.results13, go_sem, y9.c0, y9.c1]) rfl ⟨dn, (.slice ad ds.length cd), (.slice (some ⟨g, 0, none⟩) 0 0), ds, [], z, rfl, HQ1.out, HQ2.out, by omega, by simp, HZD.out, fun s hs => (by cases hs), (HBW.out.setCell (p := ⟨w.heap.size, 0, none⟩) (Nat.le_refl _) _).setCell (p := ⟨w.heap.size, 1, none⟩) (Nat.le_refl _) _⟩
      · have hc2 : (1 : Int) < (cp : Int) := by omega
        have HX2n := hid (reads_drop2 (c := cp - 1) 1 hgl6 hcells)
        clear HX2 hcells
        have HX2 := HX2n
        have b0 := HB8.out.c0
        have b1 := HB8.out.c1
        have r0 := HR2.out.c0
        have rf0 := HR2.out.fz 0
        have y8 := LBox.set0 dn HR2.out
        have t1 := y8.c1
        have tf1 := y8.fz 1
        have y9 := y8.set1 (.slice ad ds.length cd)
        have HQ1 := hid (reads_set (reads_set HX1.out HR2.out 0 (.int .i64 dn)) y8 1 (.slice ad ds.length cd))
        have HQ2 := hid (reads_set (reads_set HX2.out HR2.out 0 (.int .i64 dn)) y8 1 (.slice ad ds.length cd))
        clear y8
        go_wp2
        exact bodyPost_ret (v := .tuple #[.agg #[.int .i64 dn, (.slice ad ds.length cd)], (.slice (some ⟨g, 1, none⟩) (ps.length - 1) (cp - 1)), .int .i64 z]) (by simp [results, Tryz.results13, go_sem, y9.c0, y9.c1]) rfl ⟨dn, (.slice ad ds.length cd), (.slice (some ⟨g, 1, none⟩) (ps.length - 1) (cp - 1)), ds, (ps.drop 1), z, rfl, HQ1.out, HQ2.out, by omega, by rw [List.length_drop]; omega, HZD.out, fun s hs => HZP.out s (List.mem_of_mem_drop hs), (HBW.out.setCell (p := ⟨w.heap.size, 0, none⟩) (Nat.le_refl _) _).setCell (p := ⟨w.heap.size, 1, none⟩) (Nat.le_refl _) _⟩
    · have hl1' : ¬ ((0 : Int) < (ps.length : Int)) := by omega
      have b0 := HB8.out.c0
      have b1 := HB8.out.c1
      have r0 := HR2.out.c0
      have rf0 := HR2.out.fz 0
      have y8 := LBox.set0 dn HR2.out
      have t1 := y8.c1
      have tf1 := y8.fz 1
      have y9 := y8.set1 (.slice ad ds.length cd)
      have HQ1 := hid (reads_set (reads_set HX1.out HR2.out 0 (.int .i64 dn)) y8 1 (.slice ad ds.length cd))
      have HQ2 := hid (reads_set (reads_set HX2.out HR2.out 0 (.int .i64 dn)) y8 1 (.slice ad ds.length cd))
      clear y8
      go_wp2
      exact bodyPost_ret (v := .tuple #[.agg #[.int .i64 dn, (.slice ad ds.length cd)], (.slice ap ps.length cp), .int .i64 z]) (by simp [results, Tryz.results13, go_sem, y9.c0, y9.c1]) rfl ⟨dn, (.slice ad ds.length cd), (.slice ap ps.length cp), ds, ps, z, rfl, HQ1.out, HQ2.out, by omega, by omega, HZD.out, HZP.out, (HBW.out.setCell (p := ⟨w.heap.size, 0, none⟩) (Nat.le_refl _) _).setCell (p := ⟨w.heap.size, 1, none⟩) (Nat.le_refl _) _⟩
  · by_cases hl1 : 0 < ps.length
    · have hl1' : (0 : Int) < (ps.length : Int) := by omega
      obtain ⟨g, rfl, hgl⟩ := hap (by omega)
      go_wp2_with fail
      refine (HP.out (p3 + 1) (ps.length : Int) _ HRd6.out (by omega) (by omega) (by omega)).mono ?_
      rintro e w7 ⟨k, rfl, hk, hr7, hg7⟩
      have hkl : k < ps.length := by omega
      have B7 := hid (HB8.out.grown hg7 (by have := box_rd_ne HRd6.out HB8.out; simpa using fun e => this e.symm))
      have R7 := hid (HR2.out.grown hg7 (by simp))
      have Q7 := hid (HQ6.out.kept hg7 (.inr (row_rd_ne HRd6.out HQ6.out)))
      have V7 := hid (HV6.out.kept hg7 (.inr (row_rd_ne HRd6.out HV6.out)))
      have W7 := hid (HBW.out.trans ((grown_below hg7 HRd6.out.lt).mono (Nat.le_succ _)))
      have HRd7 := hid hr7
      obtain ⟨_, hcells⟩ := row_capcells Q7.out
      have hck := hcells k hkl
      have hzk : (ps.getD k ByteArray.empty).size ≤ 7000 := by
        rw [List.getD_eq_getElem?_getD, List.getElem?_eq_getElem hkl]
        exact HZ7P.out _ (List.getElem_mem hkl)
      clear hr7 hg7 hcells HB8 HR2 HBW HQ6 HV6 HRd6 HX1 HX2
      generalize ps.getD k ByteArray.empty = pk at *
      have hki : (k : Int) < (ps.length : Int) := by omega
      go_wp2_with fail
      refine (l1Bend_any (w.heap.size + 1) a nn cap bs (p3 + 1 + 1) pk _ HRd7.out (by omega) hzk).mono ?_
      rintro e w8 ⟨u, rfl, hu, hg8⟩
      have B8 := B7.out.grown hg8 (by have := box_rd_ne HRd7.out B7.out; simpa using fun e => this e.symm)
      have R8 := R7.out.grown hg8 (by simp)
      have Q8 := Q7.out.kept hg8 (.inr (row_rd_ne HRd7.out Q7.out))
      have V8 := V7.out.kept hg8 (.inr (row_rd_ne HRd7.out V7.out))
      have W8 := W7.out.trans ((grown_below hg8 HRd7.out.lt).mono (Nat.le_succ _))
      have hg9 := grownBy_setCellAt w8 g k (.string u)
      have hgw := (Q8.lt g rfl).1
      have hck8 := (row_capcells Q8).2 k hkl
      have hfk8 := Q8.frozenAt k
      have hst := (Q8.stored k (.string u)).1
      rw [show (ps.map Value.string).set k (.string u) = (ps.set k u).map Value.string by rw [List.map_set]] at hst
      have HX2 := hid (reads_put hst (by rw [List.length_set]))
      have HX1 := hid (reads_store V8 (fun e => by have := HVL.out g e; omega) hg9)
      have HB8 := hid (B8.grown hg9 (row_box_ne B8 Q8))
      have HR2 := hid (R8.grown hg9 (row_box_ne R8 Q8))
      have HBW := hid (W8.setCell (p := ⟨g, k, none⟩) (by show w.heap.size ≤ g; omega) (.string u))
      have HZS := hid (set_sizes (k := k) HZP.out hu)
      clear B8 R8 Q8 V8 W8 hg9 hst B7 R7 Q7 V7 W7 hg8
      have b0 := HB8.out.c0
      have b1 := HB8.out.c1
      have r0 := HR2.out.c0
      have rf0 := HR2.out.fz 0
      have y8 := LBox.set0 dn HR2.out
      have t1 := y8.c1
      have tf1 := y8.fz 1
      have y9 := y8.set1 (.slice ad ds.length cd)
      have HQ1 := hid (reads_set (reads_set HX1.out HR2.out 0 (.int .i64 dn)) y8 1 (.slice ad ds.length cd))
      have HQ2 := hid (reads_set (reads_set HX2.out HR2.out 0 (.int .i64 dn)) y8 1 (.slice ad ds.length cd))
      clear y8
      go_wp2
      exact bodyPost_ret (v := .tuple #[.agg #[.int .i64 dn, (.slice ad ds.length cd)], (.slice (some ⟨g, 0, none⟩) ps.length cp), .int .i64 z]) (by simp [results, Tryz.results13, go_sem, y9.c0, y9.c1]) rfl ⟨dn, (.slice ad ds.length cd), (.slice (some ⟨g, 0, none⟩) ps.length cp), ds, (ps.set k u), z, rfl, HQ1.out, HQ2.out, by omega, by rw [List.length_set]; omega, HZD.out, HZS.out, (HBW.out.setCell (p := ⟨w.heap.size, 0, none⟩) (Nat.le_refl _) _).setCell (p := ⟨w.heap.size, 1, none⟩) (Nat.le_refl _) _⟩
    · have hl1' : ¬ ((0 : Int) < (ps.length : Int)) := by omega
      have b0 := HB8.out.c0
      have b1 := HB8.out.c1
      have r0 := HR2.out.c0
      have rf0 := HR2.out.fz 0
      have y8 := LBox.set0 dn HR2.out
      have t1 := y8.c1
      have tf1 := y8.fz 1
      have y9 := y8.set1 (.slice ad ds.length cd)
      have HQ1 := hid (reads_set (reads_set HX1.out HR2.out 0 (.int .i64 dn)) y8 1 (.slice ad ds.length cd))
      have HQ2 := hid (reads_set (reads_set HX2.out HR2.out 0 (.int .i64 dn)) y8 1 (.slice ad ds.length cd))
      clear y8
      go_wp2
      exact bodyPost_ret (v := .tuple #[.agg #[.int .i64 dn, (.slice ad ds.length cd)], (.slice ap ps.length cp), .int .i64 z]) (by simp [results, Tryz.results13, go_sem, y9.c0, y9.c1]) rfl ⟨dn, (.slice ad ds.length cd), (.slice ap ps.length cp), ds, ps, z, rfl, HQ1.out, HQ2.out, by omega, by omega, HZD.out, HZP.out, (HBW.out.setCell (p := ⟨w.heap.size, 0, none⟩) (Nat.le_refl _) _).setCell (p := ⟨w.heap.size, 1, none⟩) (Nat.le_refl _) _⟩
  · have hsz := HBW.out.size
    have P0 : LBox (w6.alloc (.cells #[.string ⟨#[115, 104, 111, 114, 116]⟩, .string ⟨#[101, 114]⟩] 9)) b8 dn (.slice ad ds.length cd) := HB8.out.alloc _
    have HPB := hid P0
    have HPR := hid (HR2.out.alloc (.cells #[.string ⟨#[115, 104, 111, 114, 116]⟩, .string ⟨#[101, 114]⟩] 9))
    have HPW := hid (HBW.out.alloc hsz (.cells #[.string ⟨#[115, 104, 111, 114, 116]⟩, .string ⟨#[101, 114]⟩] 9))
    have HPQ := hid (two_strings w6 ⟨#[115, 104, 111, 114, 116]⟩ ⟨#[101, 114]⟩)
    have HS1 := hid fun W => specSum2 ⟨#[115, 104, 111, 114, 116]⟩ z W (by show 5 ≤ maxLen; unfold maxLen; omega)
    have HS2 := hid fun W => specSum2 ⟨#[101, 114]⟩ z W (by show 2 ≤ maxLen; unfold maxLen; omega)
    have hz1 := sumT_size z ⟨#[115, 104, 111, 114, 116]⟩
    have hz2 := sumT_size z ⟨#[101, 114]⟩
    generalize sumT z ⟨#[115, 104, 111, 114, 116]⟩ = u1 at *
    generalize sumT z ⟨#[101, 114]⟩ = u2 at *
    clear P0 HB8 HR2 HBW HX1 HX2 hsz
    go_wp2_with fail
    refine (HS1.out _).mono ?_
    rintro e w7 ⟨rfl, hb7⟩
    have HPB7 := hid (HPB.out.below hb7)
    have HPR7 := hid (HPR.out.below hb7)
    have HPQ7 := hid (HPQ.out.below hb7)
    have HPW7 := hid (HPW.out.trans (hb7.mono HPW.out.size))
    clear hb7 HPB HPR HPQ HPW
    go_wp2_with fail
    refine (HS2.out _).mono ?_
    rintro e w8 ⟨rfl, hb8x⟩
    have B8 := HPB7.out.below hb8x
    have R8 := HPR7.out.below hb8x
    have Q8 := HPQ7.out.below hb8x
    have W8 := HPW7.out.trans (hb8x.mono HPW7.out.size)
    have B9 := B8.alloc (.cells #[.string u1, .string u2] 9)
    have R9 := R8.alloc (.cells #[.string u1, .string u2] 9)
    have Q9 := Q8.below ((Below.refl w8.heap.size w8).alloc (Nat.le_refl _) (.cells #[.string u1, .string u2] 9))
    have V9 := two_strings w8 u1 u2
    have W9 := W8.alloc W8.size (.cells #[.string u1, .string u2] 9)
    have BA : LBox ((w8.alloc (.cells #[.string u1, .string u2] 9)).setCell ⟨b8, 0, none⟩ (.int .i64 7)) b8 7 (.slice ad ds.length cd) := LBox.set0 7 B9
    have q0 := B9.c0
    have qf0 := B9.fz 0
    have q1 := BA.c1
    have qf1 := BA.fz 1
    have HX1 := hid (reads_set (reads_set V9 B9 0 (.int .i64 7)) BA 1 (.slice (some ⟨w8.heap.size, 0, none⟩) 2 2))
    have HX2 := hid (reads_set (reads_set Q9 B9 0 (.int .i64 7)) BA 1 (.slice (some ⟨w8.heap.size, 0, none⟩) 2 2))
    have HR2 := hid ((R9.grown (grownBy_setCellAt _ b8 0 (.int .i64 7)) (by simp; omega)).grown (grownBy_setCellAt _ b8 1 (.slice (some ⟨w8.heap.size, 0, none⟩) 2 2)) (by simp; omega))
    have HB8 := hid (BA.set1 (.slice (some ⟨w8.heap.size, 0, none⟩) 2 2))
    have HBW := hid ((W9.setCell (p := ⟨b8, 0, none⟩) (by show w.heap.size ≤ b8; omega) (.int .i64 7)).setCell (p := ⟨b8, 1, none⟩) (by show w.heap.size ≤ b8; omega) (.slice (some ⟨w8.heap.size, 0, none⟩) 2 2))
    have HZ1 : Hid (∀ s ∈ [u1, u2], s.size ≤ 10000) := fun s hs => by
      simp only [List.mem_cons, List.not_mem_nil, or_false] at hs
      rcases hs with rfl | rfl <;> omega
    have HZ2 : Hid (∀ s ∈ [(⟨#[115, 104, 111, 114, 116]⟩ : ByteArray), ⟨#[101, 114]⟩], s.size ≤ 14001) := fun s hs => by
      simp only [List.mem_cons, List.not_mem_nil, or_false] at hs
      rcases hs with rfl | rfl
      · show 5 ≤ 14001; omega
      · show 2 ≤ 14001; omega
    clear B8 R8 Q8 W8 B9 R9 Q9 V9 W9 BA hb8x HPB7 HPR7 HPQ7 HPW7
    have b0 := HB8.out.c0
    have b1 := HB8.out.c1
    have r0 := HR2.out.c0
    have rf0 := HR2.out.fz 0
    have y8 := LBox.set0 7 HR2.out
    have t1 := y8.c1
    have tf1 := y8.fz 1
    have y9 := y8.set1 (.slice (some ⟨w8.heap.size, 0, none⟩) 2 2)
    have HQ1 := hid (reads_set (reads_set HX1.out HR2.out 0 (.int .i64 7)) y8 1 (.slice (some ⟨w8.heap.size, 0, none⟩) 2 2))
    have HQ2 := hid (reads_set (reads_set HX2.out HR2.out 0 (.int .i64 7)) y8 1 (.slice (some ⟨w8.heap.size, 0, none⟩) 2 2))
    clear y8
    go_wp2
    exact bodyPost_ret (v := .tuple #[.agg #[.int .i64 7, (.slice (some ⟨w8.heap.size, 0, none⟩) 2 2)], (.slice (some ⟨w6.heap.size, 0, none⟩) 2 2), .int .i64 z]) (by simp [results, Tryz.results13, go_sem, y9.c0, y9.c1]) rfl ⟨7, (.slice (some ⟨w8.heap.size, 0, none⟩) 2 2), (.slice (some ⟨w6.heap.size, 0, none⟩) 2 2), [u1, u2], [⟨#[115, 104, 111, 114, 116]⟩, ⟨#[101, 114]⟩], z, rfl, HQ1.out, HQ2.out, by simp, by simp, HZ1.out, HZ2.out, (HBW.out.setCell (p := ⟨w.heap.size, 0, none⟩) (Nat.le_refl _) _).setCell (p := ⟨w.heap.size, 1, none⟩) (Nat.le_refl _) _⟩
  · have h0 : ((x : Int) == 0) = false := by simp; omega
    have h1 : ((x : Int) == 1) = false := by simp; omega
    have h2 : ((x : Int) == 2) = false := by simp; omega
    have h3 : ((x : Int) == 3) = false := by simp; omega
    have b0 := HB8.out.c0
    have b1 := HB8.out.c1
    have r0 := HR2.out.c0
    have rf0 := HR2.out.fz 0
    have y8 := LBox.set0 dn HR2.out
    have t1 := y8.c1
    have tf1 := y8.fz 1
    have y9 := y8.set1 (.slice ad ds.length cd)
    have HQ1 := hid (reads_set (reads_set HX1.out HR2.out 0 (.int .i64 dn)) y8 1 (.slice ad ds.length cd))
    have HQ2 := hid (reads_set (reads_set HX2.out HR2.out 0 (.int .i64 dn)) y8 1 (.slice ad ds.length cd))
    clear y8
    go_wp2
    exact bodyPost_ret (v := .tuple #[.agg #[.int .i64 dn, (.slice ad ds.length cd)], (.slice ap ps.length cp), .int .i64 z]) (by simp [results, Tryz.results13, go_sem, y9.c0, y9.c1]) rfl ⟨dn, (.slice ad ds.length cd), (.slice ap ps.length cp), ds, ps, z, rfl, HQ1.out, HQ2.out, by omega, by omega, HZD.out, HZP.out, (HBW.out.setCell (p := ⟨w.heap.size, 0, none⟩) (Nat.le_refl _) _).setCell (p := ⟨w.heap.size, 1, none⟩) (Nat.le_refl _) _⟩
theorem drawBuild_any (a : Option Addr) (n cap : Nat) (zs : List Int) (w : World) (h : BytesIn w a n cap zs) (hn : n ≤ maxLen) :
    Calls Tryz.prog 13 #[.slice a n cap] w fun e w' => ∃ (m : Int) (v vp : Value) (ss ps : List ByteArray) (z : Int), e = .returned (.tuple #[.agg #[.int .i64 m, v], vp, .int .i64 z]) ∧ Reads w' v ss ∧ Reads w' vp ps ∧ ss.length ≤ 3000 ∧ ps.length ≤ 3000 ∧ (∀ s ∈ ss, s.size ≤ 10000) ∧ (∀ s ∈ ps, s.size ≤ 14001) ∧ Below w.heap.size w w' :=
  drawBuild_of (fun rb a nn cap bs p n v ss b2 w h1 h2 h3 h4 h5 h6 => l3Spoil_any rb a nn cap bs p n v ss b2 w h1 h2 h3 h4 h5 h6) a n cap zs w h hn
end Go.Proofs.YtfamkeligbiidaaGreatDoor
