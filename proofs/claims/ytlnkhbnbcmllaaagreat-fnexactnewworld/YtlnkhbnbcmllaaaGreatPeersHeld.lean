import Derived.Test.YtlnkhbnbcmllaaaGreatFetchTo
/- Copies of rows of peers. -/
namespace Go.Proofs.YtlnkhbnbcmllaaaGreat
open Go.RowKit
set_option maxRecDepth 100000 in
set_option maxHeartbeats 2000000 in
theorem toPeerS_any (v : Value) (ps : Prs) (w : World) (hv : RdP w v ps) (hl : ps.length ≤ 1048576) (hf : PsFit 1048576 ps) :
    Calls Tryz.prog 24 #[v] w fun e w' => ∃ v' qs, e = .returned v' ∧ qs.map Prod.fst = ps ∧ PeersOwn w' w.heap.size v' qs ∧ Below w.heap.size w w' := by
  obtain ⟨i0, hi, hz0, hz1, hz2⟩ := info_parts Tryz.infoPeer
  obtain ⟨a, ca, rfl, hca⟩ := hv
  have HC := hid hca
  have HF := hid hf
  obtain ⟨M, hM⟩ : ∃ M, M = madeCells (Value.agg #[.int .i64 0, .int .i64 0, .int .i64 0, .string ⟨#[]⟩, .slice none 0 0]).cells (((ps.length : Nat) : Int).toNat * i0.size) := ⟨_, rfl⟩
  have hMs : M.size = ps.length * 5 := by rw [hM, size_madeCells, hz1]; simp
  have hMv : ∀ j, j < ps.length * 5 → ∃ x, M[j]? = some x := fun j hj => ⟨_, Array.getElem?_eq_getElem (by omega)⟩
  have hmk : ∀ W : World, (Instr.makeSlice 35 (.int .i64 (ps.length : Int)) (.int .i64 (ps.length : Int))).run Tryz.prog W = .ok (.slice (some ⟨W.heap.size, 0, none⟩) ps.length ps.length) (W.alloc (.cells M 81)) := fun W => by
    have h := run_make (P := Tryz.prog) W 35 81 i0 (.agg #[.int .i64 0, .int .i64 0, .int .i64 0, .string ⟨#[]⟩, .slice none 0 0]) Tryz.underlying35 hi hz0 .i64 .i64 (ps.length : Int) (ps.length : Int) (by omega) (by omega) (by rw [hz2]; omega) (by omega)
    rw [← hM] at h
    simpa using h
  clear hM hca hf
  have HMV := hid hMv
  clear hMv
  have HO := hid (Blk.new w 81 M)
  have HMS := hid hMs
  go_enter Tryz.func24, Tryz.ntmps24
  go_wp2
  go_loopw [4] (fun i' wr => ∃ (i : Nat) (qs : PV), i ≤ ps.length ∧ i' = .int .i64 i ∧ qs.map Prod.fst = ps.take i ∧ Blk wr w.heap.size 81 (cellsQ qs ++ M.toList.drop (i * 5)).toArray ∧ (∀ j, j < qs.length → wr.ownsRow (w.heap.size + 1) 9 1 (qv qs j) (qp qs j).nots.length ((qp qs j).nots.map Value.string)) ∧ (∀ x y, x < qs.length → y < qs.length → x ≠ y → ∀ g, (qv qs x).ownBlock = some g → (qv qs y).ownBlock ≠ some g) ∧ Below w.heap.size w wr ∧ w.heap.size + 1 ≤ wr.heap.size) (fun i' _ => ps.length - (intOf i').toNat)
  case atStart => exact ⟨0, [], Nat.zero_le _, rfl, rfl, by simpa [cellsQ] using HO.out, fun j hj => absurd hj (by simp), fun x y hx => absurd hx (by simp), (Below.refl _ _).alloc (Nat.le_refl _) _, by simp⟩
  case round =>
    obtain ⟨i, qs, hil, rfl, hqs, hr, hnr, hap, hb, hsz⟩ := hrel
    have hql : qs.length = i := by have := congrArg List.length hqs; simp at this; omega
    by_cases hlt : i < ps.length
    · obtain ⟨b, o, vn, rfl, h5⟩ := HC.out i hlt
      have g5 := h5.below hb
      have hfi := HF.out i hlt
      have HQS : Hid (∀ v', (qs ++ [(pat ps i, v')]).map Prod.fst = ps.take (i + 1)) := fun v' => by
        rw [List.map_append, hqs, List.take_succ_eq_append_getElem hlt]
        simp [pat, hlt]
      have HTP := hid fun W h => toPeer_any (pat ps i).lies (pat ps i).wait (pat ps i).last (pat ps i).asked vn (pat ps i).nots W h hfi.nots
      have HSET := hid fun v' => rowQ_set qs M.toList i hql (by simp; omega) (pat ps i) v'
      have HPA : Hid (∀ v' j, qp (qs ++ [(pat ps i, v')]) j = if j < i then qp qs j else if j = i then pat ps i else pr0) := fun v' j => by
        unfold qp
        rw [List.getD_eq_getElem?_getD, List.getElem?_append, hql]
        split
        · next h => rw [List.getD_eq_getElem?_getD]
        · next h =>
          by_cases e : j = i
          · subst e; simp
          · rw [List.getElem?_eq_none (by simp; omega), if_neg e]; rfl
      have HVA : Hid (∀ v' j, qv (qs ++ [(pat ps i, v')]) j = if j < i then qv qs j else if j = i then v' else .slice none 0 0) := fun v' j => by
        unfold qv
        rw [List.getD_eq_getElem?_getD, List.getElem?_append, hql]
        split
        · next h => rw [List.getD_eq_getElem?_getD]
        · next h =>
          by_cases e : j = i
          · subst e; simp
          · rw [List.getElem?_eq_none (by simp; omega), if_neg e]; rfl
      have hg : ∀ j, j < 5 → ∃ x, (cellsQ qs ++ M.toList.drop (i * 5))[i * 5 + j]? = some x := fun j hj => by
        obtain ⟨x, hx⟩ := HMV.out (i * 5 + j) (by omega)
        exact ⟨x, (rowQ_get qs M.toList i j hql).trans (by simpa using hx)⟩
      obtain ⟨z0, hz0'⟩ := hg 0 (by omega)
      obtain ⟨z1, hz1'⟩ := hg 1 (by omega)
      obtain ⟨z2, hz2'⟩ := hg 2 (by omega)
      obtain ⟨z3, hz3'⟩ := hg 3 (by omega)
      obtain ⟨z4, hz4'⟩ := hg 4 (by omega)
      rw [Nat.add_zero] at hz0'
      obtain ⟨x0, x1, x2, x3, x4, x5, x6⟩ := g5
      obtain ⟨a4, c4, hvn, _⟩ := x6.form
      have HX6 := hid x6
      have HNL := hid hfi.nots
      have HR := hid hr
      have HB := hid hb
      have HNR := hid hnr
      have HAP := hid hap
      have HQL := hid hql
      generalize hP : pat ps i = p at *
      obtain ⟨pl, pw, pt, pa, pn⟩ := p
      dsimp only at x1 x2 x3 x4 hvn HTP HSET HX6 HNL
      subst hvn
      generalize hcs : cellsQ qs ++ M.toList.drop (i * 5) = cs at *
      have HZ := hid (show cs[i * 5]? = some z0 ∧ cs[i * 5 + 1]? = some z1 ∧ cs[i * 5 + 2]? = some z2 ∧ cs[i * 5 + 3]? = some z3 ∧ cs[i * 5 + 4]? = some z4 from ⟨hz0', hz1', hz2', hz3', hz4'⟩)
      clear h5 x6 hr hb hnr hap hfi hg hz0' hz1' hz2' hz3' hz4' hP hcs hqs hql
      go_wp2_with fail
      refine (HTP.out _ HX6.out).mono ?_
      rintro e w1 ⟨v1, rfl, ho1, hb1⟩
      obtain ⟨a1, c1, rfl, _⟩ := row_form ho1
      have R0 := HR.out.below hb1
      have B1 := HB.out.trans (hb1.mono HB.out.size)
      have hs1 := hb1.size
      obtain ⟨y0, y1, y2, y3, y4⟩ := HZ.out
      have e0 : w1.cell? ⟨w.heap.size, i * 5, none⟩ = some z0 := (R0.cell (i * 5)).trans (by simpa using y0)
      have f0 := R0.fz (i * 5)
      have R1 := R0.set (i * 5) (.int .i64 pl)
      have e1 : (w1.setCell ⟨w.heap.size, i * 5, none⟩ (.int .i64 pl)).cell? ⟨w.heap.size, i * 5 + 1, none⟩ = some z1 := (R1.cell (i * 5 + 1)).trans (by rw [List.setIfInBounds_toArray, List.getElem?_toArray, List.getElem?_set_ne (by omega)]; exact y1)
      have f1 := R1.fz (i * 5 + 1)
      have R2 := R1.set (i * 5 + 1) (.int .i64 pw)
      have e2 : ((w1.setCell ⟨w.heap.size, i * 5, none⟩ (.int .i64 pl)).setCell ⟨w.heap.size, i * 5 + 1, none⟩ (.int .i64 pw)).cell? ⟨w.heap.size, i * 5 + 2, none⟩ = some z2 := (R2.cell (i * 5 + 2)).trans (by rw [List.setIfInBounds_toArray, List.setIfInBounds_toArray, List.getElem?_toArray, List.getElem?_set_ne (by omega), List.getElem?_set_ne (by omega)]; exact y2)
      have f2 := R2.fz (i * 5 + 2)
      have R3 := R2.set (i * 5 + 2) (.int .i64 pt)
      have e3 : (((w1.setCell ⟨w.heap.size, i * 5, none⟩ (.int .i64 pl)).setCell ⟨w.heap.size, i * 5 + 1, none⟩ (.int .i64 pw)).setCell ⟨w.heap.size, i * 5 + 2, none⟩ (.int .i64 pt)).cell? ⟨w.heap.size, i * 5 + 3, none⟩ = some z3 := (R3.cell (i * 5 + 3)).trans (by rw [List.setIfInBounds_toArray, List.setIfInBounds_toArray, List.setIfInBounds_toArray, List.getElem?_toArray, List.getElem?_set_ne (by omega), List.getElem?_set_ne (by omega), List.getElem?_set_ne (by omega)]; exact y3)
      have f3 := R3.fz (i * 5 + 3)
      have R4 := R3.set (i * 5 + 3) (.string pa)
      have e4 : ((((w1.setCell ⟨w.heap.size, i * 5, none⟩ (.int .i64 pl)).setCell ⟨w.heap.size, i * 5 + 1, none⟩ (.int .i64 pw)).setCell ⟨w.heap.size, i * 5 + 2, none⟩ (.int .i64 pt)).setCell ⟨w.heap.size, i * 5 + 3, none⟩ (.string pa)).cell? ⟨w.heap.size, i * 5 + 4, none⟩ = some z4 := (R4.cell (i * 5 + 4)).trans (by rw [List.setIfInBounds_toArray, List.setIfInBounds_toArray, List.setIfInBounds_toArray, List.setIfInBounds_toArray, List.getElem?_toArray, List.getElem?_set_ne (by omega), List.getElem?_set_ne (by omega), List.getElem?_set_ne (by omega), List.getElem?_set_ne (by omega)]; exact y4)
      have f4 := R4.fz (i * 5 + 4)
      have R5 := R4.set (i * 5 + 4) (.slice a1 pn.length c1)
      rw [List.setIfInBounds_toArray, List.setIfInBounds_toArray, List.setIfInBounds_toArray, List.setIfInBounds_toArray, List.setIfInBounds_toArray] at R5
      have hset := HSET.out (.slice a1 pn.length c1)
      rw [hset] at R5
      have HR5 := hid R5
      have G5 := grown_same (grown_same (grown_same (grown_same (grownBy_setCellAt w1 w.heap.size (i * 5) (.int .i64 pl)) (grownBy_setCellAt _ w.heap.size (i * 5 + 1) (.int .i64 pw))) (grownBy_setCellAt _ w.heap.size (i * 5 + 2) (.int .i64 pt))) (grownBy_setCellAt _ w.heap.size (i * 5 + 3) (.string pa))) (grownBy_setCellAt _ w.heap.size (i * 5 + 4) (.slice a1 pn.length c1))
      have HG5 := hid G5
      have HO1 := hid ho1
      have HB1 := hid B1
      have HBB1 := hid hb1
      clear R0 R1 R2 R3 R4 R5 G5 ho1 B1 hb1 y0 y1 y2 y3 y4 hset
      go_wp2
      have hsg := HG5.out.size
      refine ⟨⟨i + 1, qs ++ [(⟨pl, pw, pt, pa, pn⟩, .slice a1 pn.length c1)], by omega, by go_num, HQS.out _, HR5.out, fun j hj => ?_, fun x y hx hy hxy g => ?_, HB1.out.grown HG5.out (by omega) (fun g e => by cases e; exact Nat.le_refl _), by omega⟩, by simp [intOf]; omega⟩
      · have hj' : j < i + 1 := by rw [List.length_append, HQL.out] at hj; simpa using hj
        rw [HPA.out, HVA.out]
        by_cases hji : j < i
        · rw [if_pos hji, if_pos hji]
          have h0 := HNR.out j (by rw [HQL.out]; exact hji)
          exact row_kept (Below.row HBB1.out h0) HG5.out (by omega)
        · obtain rfl : j = i := by omega
          rw [if_neg hji, if_neg hji, if_pos rfl, if_pos rfl]
          exact row_kept (ownsRow_base HO1.out (by omega)) HG5.out (by omega)
      · have hx' : x < i + 1 := by rw [List.length_append, HQL.out] at hx; simpa using hx
        have hy' : y < i + 1 := by rw [List.length_append, HQL.out] at hy; simpa using hy
        rw [HVA.out, HVA.out]
        intro h1 h2
        by_cases hxi : x < i
        · rw [if_pos hxi] at h1
          by_cases hyi : y < i
          · rw [if_pos hyi] at h2
            exact HAP.out x y (by rw [HQL.out]; exact hxi) (by rw [HQL.out]; exact hyi) hxy g h1 h2
          · rw [if_neg hyi, if_pos (by omega)] at h2
            have k1 := (HNR.out x (by rw [HQL.out]; exact hxi)).lt g h1
            have k2 := HO1.out.lt g h2
            omega
        · rw [if_neg hxi, if_pos (by omega)] at h1
          have hyi : y < i := by omega
          rw [if_pos hyi] at h2
          have k1 := (HNR.out y (by rw [HQL.out]; exact hyi)).lt g h2
          have k2 := HO1.out.lt g h1
          omega
    · obtain rfl : i = ps.length := by omega
      have e : cellsQ qs ++ M.toList.drop (ps.length * 5) = cellsQ qs := by rw [List.drop_of_length_le (by simp; omega)]; simp
      rw [e] at hr
      rw [List.take_length] at hqs
      have HR := hid hr
      have HQS := hid hqs
      have HNR := hid hnr
      have HAP := hid hap
      have HB := hid hb
      clear hr hqs hnr hap hb
      go_wp2
      go_ret
      have hcl := cellsQ_len qs
      refine ⟨_, qs, rfl, HQS.out, ⟨?_, fun i hi => ownsRow_base (HNR.out i hi) (by omega), fun j hj g hg he => ?_, HAP.out⟩, HB.out⟩
      · rw [← hql]
        exact ⟨hcl, .inr ⟨w.heap.size, qs.length, (cellsQ qs).toArray, rfl, Nat.le_refl _, HR.out, Nat.le_refl _, by unfold maxLen; omega, by simp [hcl], by show List.take (qs.length * 5) (cellsQ qs).toArray.toList = _; rw [← hcl, List.toList_toArray, List.take_length]⟩⟩
      · have k1 := ((HNR.out j hj).lt g hg).1
        have k2 : w.heap.size = g := Option.some.inj he
        omega
end Go.Proofs.YtlnkhbnbcmllaaaGreat
/- Copies of fetches. -/
namespace Go.Proofs.YtlnkhbnbcmllaaaGreat
open Go.RowKit
set_option maxRecDepth 100000 in
set_option maxHeartbeats 2000000 in
theorem toFetch_any (nm : ByteArray) (now : Int) (full : Bool) (wd room : Int) (vi vp vq : Value) (its : Itms) (ts : List ByteArray) (ps : Prs) (w : World) (hi : RdI w vi its) (hp : Reads w vp ts) (hq : RdP w vq ps) (hli : its.length ≤ 1048576) (hlp : ts.length ≤ 1048576) (hlq : ps.length ≤ 1048576) (hf : PsFit 1048576 ps) :
    Calls Tryz.prog 7 #[fval nm now full wd room vi vp vq] w fun e w' => ∃ vi' vp' vq' qs, e = .returned (fval nm now full wd room vi' vp' vq') ∧ qs.map Prod.fst = ps ∧ FetchOwn w' (w.heap.size + 3) vi' vp' vq' its ts qs ∧ OwnI w' (w.heap.size + 3) vi' its ∧ Below w.heap.size w w' := by
  have hN1 := ((Blk.new w 28 (fcells nm now full wd room vi vp vq)).alloc (.cells #[.string ⟨#[]⟩, .int .i64 0, .bool false, .int .i64 0, .int .i64 0, .slice none 0 0, .slice none 0 0, .slice none 0 0] 37)).alloc (.cells #[.string nm, .int .i64 now, .bool full, .int .i64 0, .int .i64 0, .slice none 0 0, .slice none 0 0, .slice none 0 0] 37)
  have hN2 := (Blk.new (w.alloc (.cells (fcells nm now full wd room vi vp vq) 28)) 37 #[.string ⟨#[]⟩, .int .i64 0, .bool false, .int .i64 0, .int .i64 0, .slice none 0 0, .slice none 0 0, .slice none 0 0]).alloc (.cells #[.string nm, .int .i64 now, .bool full, .int .i64 0, .int .i64 0, .slice none 0 0, .slice none 0 0, .slice none 0 0] 37)
  have hN3 := Blk.new ((w.alloc (.cells (fcells nm now full wd room vi vp vq) 28)).alloc (.cells #[.string ⟨#[]⟩, .int .i64 0, .bool false, .int .i64 0, .int .i64 0, .slice none 0 0, .slice none 0 0, .slice none 0 0] 37)) 37 #[.string nm, .int .i64 now, .bool full, .int .i64 0, .int .i64 0, .slice none 0 0, .slice none 0 0, .slice none 0 0]
  rw [World.size_alloc] at hN2
  rw [World.size_alloc, World.size_alloc] at hN3
  have hA := (((Below.refl w.heap.size w).alloc (Nat.le_refl _) (.cells (fcells nm now full wd room vi vp vq) 28)).alloc (by simp) (.cells #[.string ⟨#[]⟩, .int .i64 0, .bool false, .int .i64 0, .int .i64 0, .slice none 0 0, .slice none 0 0, .slice none 0 0] 37)).alloc (by simp; omega) (.cells #[.string nm, .int .i64 now, .bool full, .int .i64 0, .int .i64 0, .slice none 0 0, .slice none 0 0, .slice none 0 0] 37)
  have HT := hid (toStore2_any wd room vi vp its ts _ (hi.below hA) (hp.below hA) hli hlp)
  have HTP := hid fun W h => toPeerS_any vq ps W h hlq hf
  have HQ := hid hq
  obtain ⟨ai, ci, rfl, _⟩ := hi
  obtain ⟨ap, cp, rfl, _⟩ := hp.form
  obtain ⟨aq, cq, rfl, _⟩ := hq
  have HN1 := hid hN1
  have HN2 := hid hN2
  have HN3 := hid hN3
  have HA := hid hA
  clear hp hA hN1 hN2 hN3 hf
  go_enter Tryz.func7, Tryz.ntmps7
  go_wp2_with fail
  refine HT.out.mono ?_
  rintro e w1 ⟨v1, p1, rfl, oi1, op1, hap1, hb1⟩
  have N1 := HN1.out.below hb1
  have N2 := HN2.out.below hb1
  have N3 := HN3.out.below hb1
  have B1 := HA.out.trans (hb1.mono (by simp; omega))
  rw [World.size_alloc, World.size_alloc, World.size_alloc] at oi1 op1
  have hs1 := hb1.size
  rw [World.size_alloc, World.size_alloc, World.size_alloc] at hs1
  have so1 : StoreOwn w1 (w.heap.size + 1 + 1 + 1) v1 p1 its ts := ⟨oi1.row hli, op1, hap1⟩
  have HOI1 := hid oi1
  obtain ⟨a1, c1, rfl⟩ := row_any so1.items
  obtain ⟨b1, d1, rfl⟩ := row_any so1.pins
  have K1 : Blk (w1.setCell ⟨w.heap.size + 1 + 1, 3, none⟩ (.int .i64 wd)) (w.heap.size + 1 + 1) 37 #[.string nm, .int .i64 now, .bool full, .int .i64 wd, .int .i64 0, .slice none 0 0, .slice none 0 0, .slice none 0 0] := N3.set 3 (.int .i64 wd)
  have K2 : Blk ((w1.setCell ⟨w.heap.size + 1 + 1, 3, none⟩ (.int .i64 wd)).setCell ⟨w.heap.size + 1 + 1, 4, none⟩ (.int .i64 room)) (w.heap.size + 1 + 1) 37 #[.string nm, .int .i64 now, .bool full, .int .i64 wd, .int .i64 room, .slice none 0 0, .slice none 0 0, .slice none 0 0] := K1.set 4 (.int .i64 room)
  have K3 : Blk (((w1.setCell ⟨w.heap.size + 1 + 1, 3, none⟩ (.int .i64 wd)).setCell ⟨w.heap.size + 1 + 1, 4, none⟩ (.int .i64 room)).setCell ⟨w.heap.size + 1 + 1, 5, none⟩ (.slice a1 its.length c1)) (w.heap.size + 1 + 1) 37 #[.string nm, .int .i64 now, .bool full, .int .i64 wd, .int .i64 room, .slice a1 its.length c1, .slice none 0 0, .slice none 0 0] := K2.set 5 (.slice a1 its.length c1)
  have K4 : Blk ((((w1.setCell ⟨w.heap.size + 1 + 1, 3, none⟩ (.int .i64 wd)).setCell ⟨w.heap.size + 1 + 1, 4, none⟩ (.int .i64 room)).setCell ⟨w.heap.size + 1 + 1, 5, none⟩ (.slice a1 its.length c1)).setCell ⟨w.heap.size + 1 + 1, 6, none⟩ (.slice b1 ts.length d1)) (w.heap.size + 1 + 1) 37 #[.string nm, .int .i64 now, .bool full, .int .i64 wd, .int .i64 room, .slice a1 its.length c1, .slice b1 ts.length d1, .slice none 0 0] := K3.set 6 (.slice b1 ts.length d1)
  have u0 : w1.cell? ⟨w.heap.size + 1 + 1, 3, none⟩ = some (.int .i64 0) := N3.cell 3
  have r0 : w1.frozen? ⟨w.heap.size + 1 + 1, 3, none⟩ = false := N3.fz 3
  have u1 : (w1.setCell ⟨w.heap.size + 1 + 1, 3, none⟩ (.int .i64 wd)).cell? ⟨w.heap.size + 1 + 1, 4, none⟩ = some (.int .i64 0) := K1.cell 4
  have r1 : (w1.setCell ⟨w.heap.size + 1 + 1, 3, none⟩ (.int .i64 wd)).frozen? ⟨w.heap.size + 1 + 1, 4, none⟩ = false := K1.fz 4
  have u2 : ((w1.setCell ⟨w.heap.size + 1 + 1, 3, none⟩ (.int .i64 wd)).setCell ⟨w.heap.size + 1 + 1, 4, none⟩ (.int .i64 room)).cell? ⟨w.heap.size + 1 + 1, 5, none⟩ = some (.slice none 0 0) := K2.cell 5
  have r2 : ((w1.setCell ⟨w.heap.size + 1 + 1, 3, none⟩ (.int .i64 wd)).setCell ⟨w.heap.size + 1 + 1, 4, none⟩ (.int .i64 room)).frozen? ⟨w.heap.size + 1 + 1, 5, none⟩ = false := K2.fz 5
  have u3 : (((w1.setCell ⟨w.heap.size + 1 + 1, 3, none⟩ (.int .i64 wd)).setCell ⟨w.heap.size + 1 + 1, 4, none⟩ (.int .i64 room)).setCell ⟨w.heap.size + 1 + 1, 5, none⟩ (.slice a1 its.length c1)).cell? ⟨w.heap.size + 1 + 1, 6, none⟩ = some (.slice none 0 0) := K3.cell 6
  have r3 : (((w1.setCell ⟨w.heap.size + 1 + 1, 3, none⟩ (.int .i64 wd)).setCell ⟨w.heap.size + 1 + 1, 4, none⟩ (.int .i64 room)).setCell ⟨w.heap.size + 1 + 1, 5, none⟩ (.slice a1 its.length c1)).frozen? ⟨w.heap.size + 1 + 1, 6, none⟩ = false := K3.fz 6
  have G4 := grown_same (grown_same (grown_same (grownBy_setCellAt w1 (w.heap.size + 1 + 1) 3 (.int .i64 wd)) (grownBy_setCellAt _ (w.heap.size + 1 + 1) 4 (.int .i64 room))) (grownBy_setCellAt _ (w.heap.size + 1 + 1) 5 (.slice a1 its.length c1))) (grownBy_setCellAt _ (w.heap.size + 1 + 1) 6 (.slice b1 ts.length d1))
  have hne1 : w.heap.size ≠ w.heap.size + 1 + 1 := by omega
  have hne2 : w.heap.size + 1 ≠ w.heap.size + 1 + 1 := by omega
  have M1 := N1.kept G4 (fun e => hne1 (Option.some.inj e))
  have M2 := N2.kept G4 (fun e => hne2 (Option.some.inj e))
  have MB := B1.grown G4 (by omega) (fun g e => by cases e; omega)
  have MS := so1.kept G4 (by omega)
  have y7 : ((((w1.setCell ⟨w.heap.size + 1 + 1, 3, none⟩ (.int .i64 wd)).setCell ⟨w.heap.size + 1 + 1, 4, none⟩ (.int .i64 room)).setCell ⟨w.heap.size + 1 + 1, 5, none⟩ (.slice a1 its.length c1)).setCell ⟨w.heap.size + 1 + 1, 6, none⟩ (.slice b1 ts.length d1)).cell? ⟨w.heap.size, 7, none⟩ = some (.slice aq ps.length cq) := M1.cell 7
  have hs4 := G4.size
  have HK4 := hid K4
  have HM2 := hid M2
  have HMB := hid MB
  have HMS := hid MS
  have HG4 := hid G4
  have HLI := hid fun g (e : (Value.slice a1 its.length c1).ownBlock = some g) => so1.items.lt g e
  have HLP := hid fun g (e : (Value.slice b1 ts.length d1).ownBlock = some g) => so1.pins.lt g e
  have HTP4 := hid (HTP.out _ (HQ.out.below MB))
  clear K1 K2 K3 K4 M1 M2 MB MS N1 N2 N3 B1 so1 oi1 op1 hap1 hb1 G4 HTP
  go_wp2_with fail
  obtain ⟨w4, hw4⟩ : ∃ w4, w4 = ((((w1.setCell ⟨w.heap.size + 1 + 1, 3, none⟩ (.int .i64 wd)).setCell ⟨w.heap.size + 1 + 1, 4, none⟩ (.int .i64 room)).setCell ⟨w.heap.size + 1 + 1, 5, none⟩ (.slice a1 its.length c1)).setCell ⟨w.heap.size + 1 + 1, 6, none⟩ (.slice b1 ts.length d1)) := ⟨_, rfl⟩
  rw [← hw4] at HK4 HM2 HMB HMS HG4 HTP4 hs4 ⊢
  clear u0 u1 u2 u3 r0 r1 r2 r3 y7 hw4
  refine HTP4.out.mono ?_
  rintro e w5 ⟨v5, qs, rfl, hqs, po5, hb5⟩
  obtain ⟨a5, c5, rfl⟩ := row_any po5.row
  have hql : qs.length = ps.length := by rw [← hqs, List.length_map]
  have HQS := hid hqs
  rw [hql] at po5
  rw [hql]
  have K5 := HK4.out.below hb5
  have M5 := HM2.out.below hb5
  have B5 := HMB.out.trans (hb5.mono HMB.out.size)
  have S5 := HMS.out.below hb5
  have x7 : w5.cell? ⟨w.heap.size + 1 + 1, 7, none⟩ = some (.slice none 0 0) := K5.cell 7
  have x8 := K5.fz 7
  have K6 : Blk (w5.setCell ⟨w.heap.size + 1 + 1, 7, none⟩ (.slice a5 ps.length c5)) (w.heap.size + 1 + 1) 37 #[.string nm, .int .i64 now, .bool full, .int .i64 wd, .int .i64 room, .slice a1 its.length c1, .slice b1 ts.length d1, .slice a5 ps.length c5] := K5.set 7 (.slice a5 ps.length c5)
  have g6 := grownBy_setCellAt w5 (w.heap.size + 1 + 1) 7 (.slice a5 ps.length c5)
  have M6 := M5.kept g6 (fun e => hne2 (Option.some.inj e))
  have B6 := B5.setCell (p := ⟨w.heap.size + 1 + 1, 7, none⟩) (by simp; omega) (.slice a5 ps.length c5)
  have l0 : (w5.setCell ⟨w.heap.size + 1 + 1, 7, none⟩ (.slice a5 ps.length c5)).cell? ⟨w.heap.size + 1 + 1, 0, none⟩ = some (.string nm) := K6.cell 0
  have l1 : (w5.setCell ⟨w.heap.size + 1 + 1, 7, none⟩ (.slice a5 ps.length c5)).cell? ⟨w.heap.size + 1 + 1, 1, none⟩ = some (.int .i64 now) := K6.cell 1
  have l2 : (w5.setCell ⟨w.heap.size + 1 + 1, 7, none⟩ (.slice a5 ps.length c5)).cell? ⟨w.heap.size + 1 + 1, 2, none⟩ = some (.bool full) := K6.cell 2
  have l3 : (w5.setCell ⟨w.heap.size + 1 + 1, 7, none⟩ (.slice a5 ps.length c5)).cell? ⟨w.heap.size + 1 + 1, 3, none⟩ = some (.int .i64 wd) := K6.cell 3
  have l4 : (w5.setCell ⟨w.heap.size + 1 + 1, 7, none⟩ (.slice a5 ps.length c5)).cell? ⟨w.heap.size + 1 + 1, 4, none⟩ = some (.int .i64 room) := K6.cell 4
  have l5 : (w5.setCell ⟨w.heap.size + 1 + 1, 7, none⟩ (.slice a5 ps.length c5)).cell? ⟨w.heap.size + 1 + 1, 5, none⟩ = some (.slice a1 its.length c1) := K6.cell 5
  have l6 : (w5.setCell ⟨w.heap.size + 1 + 1, 7, none⟩ (.slice a5 ps.length c5)).cell? ⟨w.heap.size + 1 + 1, 6, none⟩ = some (.slice b1 ts.length d1) := K6.cell 6
  have l7 : (w5.setCell ⟨w.heap.size + 1 + 1, 7, none⟩ (.slice a5 ps.length c5)).cell? ⟨w.heap.size + 1 + 1, 7, none⟩ = some (.slice a5 ps.length c5) := K6.cell 7
  obtain ⟨q0, k0, q1, k1, q2, k2, q3, k3, q4, k4, q5, k5, q6, k6, q7, k7⟩ := M6.store8 (.string nm) (.int .i64 now) (.bool full) (.int .i64 wd) (.int .i64 room) (.slice a1 its.length c1) (.slice b1 ts.length d1) (.slice a5 ps.length c5)
  have Z := hid (M6.set8 (.string nm) (.int .i64 now) (.bool full) (.int .i64 wd) (.int .i64 room) (.slice a1 its.length c1) (.slice b1 ts.length d1) (.slice a5 ps.length c5))
  have g8 := grown_set8 (w5.setCell ⟨w.heap.size + 1 + 1, 7, none⟩ (.slice a5 ps.length c5)) (w.heap.size + 1) (.string nm) (.int .i64 now) (.bool full) (.int .i64 wd) (.int .i64 room) (.slice a1 its.length c1) (.slice b1 ts.length d1) (.slice a5 ps.length c5)
  have BB := hid (below_set8 B6 (b := w.heap.size + 1) (by omega) (Nat.le_refl _) (.string nm) (.int .i64 now) (.bool full) (.int .i64 wd) (.int .i64 room) (.slice a1 its.length c1) (.slice b1 ts.length d1) (.slice a5 ps.length c5))
  have S8 := (S5.kept g6 (by omega)).kept g8 (by omega)
  have hs5 := hb5.size
  have P8 := ((po5.kept g6 (by omega)).kept g8 (by omega)).base (show w.heap.size + 3 ≤ _ by omega)
  have hpl := po5.lt
  have FO : Hid (FetchOwn (set8 (w5.setCell ⟨w.heap.size + 1 + 1, 7, none⟩ (.slice a5 ps.length c5)) (w.heap.size + 1) (.string nm) (.int .i64 now) (.bool full) (.int .i64 wd) (.int .i64 room) (.slice a1 its.length c1) (.slice b1 ts.length d1) (.slice a5 ps.length c5)) (w.heap.size + 3) (.slice a1 its.length c1) (.slice b1 ts.length d1) (.slice a5 ps.length c5) its ts qs) :=
    ⟨S8.base (by omega), P8, fun g e h => by have h1 := (HLI.out g e).2; have h2 := (hpl g h).1; omega, fun g e h => by have h1 := (HLP.out g e).2; have h2 := (hpl g h).1; omega⟩
  have OI : Hid (OwnI (set8 (w5.setCell ⟨w.heap.size + 1 + 1, 7, none⟩ (.slice a5 ps.length c5)) (w.heap.size + 1) (.string nm) (.int .i64 now) (.bool full) (.int .i64 wd) (.int .i64 room) (.slice a1 its.length c1) (.slice b1 ts.length d1) (.slice a5 ps.length c5)) (w.heap.size + 3) (.slice a1 its.length c1) its) := by
    obtain ⟨g, e, hg, hG⟩ := HOI1.out
    have hgl := hG.lt
    have h4 := (hG.kept HG4.out (fun e => by have := Option.some.inj e; omega)).below hb5
    exact ⟨g, e, by omega, (h4.kept g6 (fun e => by have := Option.some.inj e; omega)).kept g8 (fun e => by have := Option.some.inj e; omega)⟩
  clear K5 K6 M5 M6 B5 B6 S5 S8 P8 po5 hb5 g6 g8 hpl hqs
  go_wp2
  rw [set8_def]
  refine bodyPost_ret (v := fval nm now full wd room (.slice a1 its.length c1) (.slice b1 ts.length d1) (.slice a5 ps.length c5)) (by simp [results, Tryz.results7, go_sem, Z.out.cell]) rfl ⟨_, _, _, qs, rfl, HQS.out, FO.out, OI.out, BB.out⟩
end Go.Proofs.YtlnkhbnbcmllaaaGreat
/- laws.heldPeerS, laws.markFetch, laws.heldFetch. -/
namespace Go.Proofs.YtlnkhbnbcmllaaaGreat
open Go.RowKit
theorem totP_take (ps : Prs) (m : Nat) (h : m < ps.length) : totP (ps.take (m + 1)) = totP (ps.take m) + (4 + (pat ps m).nots.length) := by
  rw [List.take_succ_eq_append_getElem h, totP_append]
  simp [totP, pat, h]
theorem totP_take_le (ps : Prs) (m : Nat) : totP (ps.take m) ≤ totP ps := by
  conv => rhs; rw [← List.take_append_drop m ps]
  rw [totP_append]; omega
theorem marksP_at : ∀ (ps : Prs) (k m : Nat), m < ps.length → pat (marksP k ps) m = markP (k + totP (ps.take m)) (pat ps m)
  | [], _, _, h => absurd h (by simp)
  | p :: r, k, 0, _ => by simp [marksP, pat, totP]
  | p :: r, k, m + 1, h => by
    have ih := marksP_at r (k + (4 + p.nots.length)) m (by simpa using h)
    have e1 : pat (marksP k (p :: r)) (m + 1) = pat (marksP (k + (4 + p.nots.length)) r) m := rfl
    have e2 : pat (p :: r) (m + 1) = pat r m := rfl
    rw [e1, e2, ih, List.take_succ_cons, totP]
    congr 1
    omega
set_option maxRecDepth 100000 in
set_option maxHeartbeats 2000000 in
theorem heldPeerS_any (v : Value) (k : Nat) (ps : Prs) (w : World) (hv : RdP w v (marksP k ps)) (h1 : 1 ≤ k) (h2 : k + totP ps ≤ 4399990) :
    Calls Tryz.prog 66 #[v, .int .i64 k] w fun e w' => e = .returned (.int .i64 ((k + totP ps : Nat) : Int)) ∧ Below w.heap.size w w' := by
  obtain ⟨a, ca, rfl, hca⟩ := hv
  rw [marksP_len]
  rw [marksP_len] at hca
  have HC := hid hca
  have hec := enters_of Tryz.func64 (by kernel_rfl) rfl
  clear hca
  go_enter Tryz.func66, Tryz.ntmps66
  go_wp2
  go_loopw [1, 5] (fun x i wr => ∃ m : Nat, m ≤ ps.length ∧ i = .int .i64 m ∧ x = .int .i64 ((k + totP (ps.take m) : Nat) : Int) ∧ Below w.heap.size w wr) (fun _ i _ => ps.length - (intOf i).toNat)
  case atStart => exact ⟨0, Nat.zero_le _, rfl, by simp [totP], Below.refl _ _⟩
  case round =>
    obtain ⟨m, hm, rfl, rfl, hb⟩ := hrel
    by_cases hlt : m < ps.length
    · obtain ⟨b, o, vn, rfl, h5⟩ := HC.out m hlt
      rw [marksP_at ps k m hlt] at h5
      have g5 := h5.below hb
      have htk := totP_take ps m hlt
      have htl := totP_take_le ps (m + 1)
      obtain ⟨j, hj⟩ : ∃ j, j = k + totP (ps.take m) := ⟨_, rfl⟩
      rw [← hj] at g5 ⊢
      have hjb : j + 4 + (pat ps m).nots.length ≤ 4399990 := by omega
      have hql : ps.length ≤ 1100000 := by have := totP_ge ps; omega
      have HM := hid fun W => markText_any (j + 3) W (by omega) (by omega)
      have HHS := hid fun W h => heldStringS_any vn (j + 4) (pat ps m).nots.length W h (by omega) (by omega)
      obtain ⟨x0, x1, x2, x3, x4, x5, x6⟩ := g5
      obtain ⟨a4, c4, hvn, _⟩ := x6.form
      rw [show (markP j (pat ps m)).nots.length = (pat ps m).nots.length from marks_length _ _] at hvn
      subst hvn
      have HJ := hid hj
      have HTK := hid htk
      have HB := hid hb
      have HX6 := hid x6
      obtain ⟨j1, hj1⟩ : ∃ j1, j1 = j + 1 := ⟨_, rfl⟩
      obtain ⟨j2, hj2⟩ : ∃ j2, j2 = j + 2 := ⟨_, rfl⟩
      obtain ⟨j3, hj3⟩ : ∃ j3, j3 = j + 3 := ⟨_, rfl⟩
      obtain ⟨j4, hj4⟩ : ∃ j4, j4 = j + 4 := ⟨_, rfl⟩
      have hw1 : IntKind.i64.wrap ((j : Int) + 1) = (j1 : Int) := by rw [IntKind.wrap_i64]; omega
      have hw2 : IntKind.i64.wrap ((j1 : Int) + 1) = (j2 : Int) := by rw [IntKind.wrap_i64]; omega
      have hw3 : IntKind.i64.wrap ((j2 : Int) + 1) = (j3 : Int) := by rw [IntKind.wrap_i64]; omega
      have hw4 : IntKind.i64.wrap ((j3 : Int) + 1) = (j4 : Int) := by rw [IntKind.wrap_i64]; omega
      have hmk : markP j (pat ps m) = ⟨(j : Int), (j1 : Int), (j2 : Int), markB j3, marks j4 (pat ps m).nots.length⟩ := by rw [hj1, hj2, hj3, hj4]; rfl
      rw [hmk] at x1 x2 x3 x4 HX6
      dsimp only at x1 x2 x3 x4 HX6
      rw [← hj3] at HM
      rw [← hj4] at HHS
      have HJ4 := hid hj4
      clear hj hj1 hj2 hj3 hj4 htk htl hb hmk h5 h1 h2 x6
      generalize markB j3 = q at *
      generalize (pat ps m).nots.length = nl at *
      have hS0 : wr.drew.cell? ⟨b, o + m * 5 + 3, none⟩ = some (.string q) := x4
      go_wp2_with fail
      refine wp_region_held (S := fun w' => w'.cell? ⟨b, o + m * 5 + 3, none⟩ = some (.string q)) (by kernel_rfl) ?_
      change wpAnyH _ _ _ _ _ _ _ _ (World.drew _)
      refine wpAnyH_take (i := 0) (v := .slice (some ⟨b, o, none⟩) ps.length ca) rfl (by kernel_rfl) (by kernel_rfl) (by kernel_rfl) (fun _ _ _ h => h) (.inl ⟨rfl, fun w' hS => by obtain s1 := hS; go_simp⟩) hS0 ?_
      refine wpAnyH_take (i := 1) (v := .int .i64 (m : Nat)) rfl (by kernel_rfl) (by kernel_rfl) (by kernel_rfl) (fun _ _ _ h => h) (.inl ⟨rfl, fun w' hS => by obtain s1 := hS; go_simp⟩) hS0 ?_
      refine wpAnyH_take (i := 2) (v := .pointer (some ⟨b, o + m * 5, none⟩)) rfl (by kernel_rfl) (by kernel_rfl) (by kernel_rfl) (fun _ _ _ h => h) (.inl ⟨rfl, fun w' hS => by obtain s1 := hS; go_simp⟩) hS0 ?_
      refine wpAnyH_take (i := 3) (v := .pointer (some ⟨b, o + m * 5 + 3, none⟩)) rfl (by kernel_rfl) (by kernel_rfl) (by kernel_rfl) (fun _ _ _ h => h) (.inl ⟨rfl, fun w' hS => by obtain s1 := hS; go_simp⟩) hS0 ?_
      refine wpAnyH_take (i := 4) (v := .string q) rfl (by kernel_rfl) (by kernel_rfl) (by kernel_rfl) (fun _ _ _ h => h) (.inl ⟨rfl, fun w' hS => by obtain s1 := hS; go_simp⟩) hS0 ?_
      refine wpAnyH_take (i := 5) (v := .int .i64 (j3 : Int)) rfl (by kernel_rfl) (by kernel_rfl) (by kernel_rfl) (fun _ _ _ h => h) (.inl ⟨rfl, fun w' hS => by obtain s1 := hS; go_simp⟩) hS0 ?_
      refine held_one 6 (by kernel_rfl) (op_calls (f := 64) (args := #[.int .i64 (j3 : Int)]) rfl rfl (by go_simp) (HM.out _) ?_)
      rintro e w1 ⟨rfl, hb1⟩
      have hb1' : Below wr.heap.size wr w1 := ⟨hb1.os, hb1.tape, hb1.output, hb1.size, hb1.block⟩
      have hS1 : w1.cell? ⟨b, o + m * 5 + 3, none⟩ = some (.string q) := (hb1'.cell (p := ⟨b, o + m * 5 + 3, none⟩) x0).trans x4
      have y5 := (hb1'.cell (p := ⟨b, o + m * 5 + 4, none⟩) x0).trans x5
      have HB1 := hid (HB.out.trans (hb1'.mono HB.out.size))
      have HH1 := hid (HHS.out w1 (HX6.out.below hb1'))
      clear hb1 hb1' hS0 x1 x2 x3 x4 x5 HHS HX6
      refine ⟨_, rfl, hS1, ?_⟩
      refine wpAnyH_take (i := 7) (v := .bool false) rfl (by kernel_rfl) (by kernel_rfl) (by kernel_rfl) (fun _ _ _ h => h) (.inl ⟨rfl, fun w' hS => by obtain s1 := hS; go_simp⟩) hS1 ?_
      refine wpAnyH_done (by kernel_rfl) ?_ _
      clear hS1
      go_simp
      go_wp2_with fail
      refine HH1.out.mono ?_
      rintro e w2 ⟨rfl, hb2⟩
      have hnn : ¬ (((j4 + nl : Nat) : Int) < 0) := by omega
      have HB2 := hid (HB1.out.trans (hb2.mono HB1.out.size))
      clear hb2 y5
      go_wp2
      refine ⟨⟨m + 1, by omega, by go_num, ?_, HB2.out⟩, by simp [intOf]; omega⟩
      rw [HTK.out, HJ4.out, HJ.out]; congr 1; omega
    · obtain rfl : m = ps.length := by omega
      rw [List.take_length]
      go_wp2
      go_ret
      exact ⟨rfl, hb⟩
theorem pblk_marks {v : Value} {qs : PV} {k b : Nat} (h : PBlk v (marksQ k qs) b) : PBlk v qs b := by
  rcases h with h | ⟨i, hi, h⟩
  · exact .inl h
  · rw [marksQ_len] at hi
    rw [qv_marks] at h
    exact .inr ⟨i, hi, h⟩
set_option maxRecDepth 100000 in
set_option maxHeartbeats 1000000 in
theorem markFetch_any (nm : ByteArray) (now : Int) (full : Bool) (wd room : Int) (vi vp vq : Value) (B : Nat) (its : Itms) (ts : List ByteArray) (qs : PV) (w : World) (h : FetchOwn w B vi vp vq its ts qs) (hl : 2 * its.length + ts.length + totQ qs ≤ 4300000) :
    Calls Tryz.prog 13 #[fval nm now full wd room vi vp vq, .int .i64 1] w fun e w' => e = .returned (.int .i64 ((1 + 2 * its.length + ts.length + totQ qs : Nat) : Int)) ∧ FetchOwn w' B vi vp vq (marksI 1 its.length) (marks (1 + 2 * its.length) ts.length) (marksQ (1 + 2 * its.length + ts.length) qs) ∧ Kept w w' (FBlk vi vp vq qs) := by
  have hA := (Below.refl w.heap.size w).alloc (Nat.le_refl _) (.cells (fcells nm now full wd room vi vp vq) 37)
  have h' := h.below hA
  have HMS := hid (markStore_any wd room vi vp B its ts _ h'.store (by omega))
  have HMP := hid fun W (hw : PeersOwn W B vq qs) => markPeerS_any vq (1 + 2 * its.length + ts.length) B qs W hw (by omega) (by omega)
  have HN := hid (Blk.new w 37 (fcells nm now full wd room vi vp vq))
  have HPW := hid h'.peers
  have HO := hid h
  have hlt := fun b => h.lt b
  obtain ⟨ai, ci, rfl⟩ := row_any h.store.items
  obtain ⟨ap, cp, rfl⟩ := row_any h.store.pins
  obtain ⟨aq, cq, rfl⟩ := row_any h.peers.row
  have HLT := hid hlt
  clear h h' hA hlt
  go_enter Tryz.func13, Tryz.ntmps13
  go_wp2_with fail
  refine HMS.out.mono ?_
  rintro e w1 ⟨rfl, ho1, hsame1, hsz1, hbel1⟩
  rw [World.size_alloc] at hsz1 hsame1
  have hA0 : ∀ b, b < w.heap.size → (w.alloc (.cells (fcells nm now full wd room (.slice ai its.length ci) (.slice ap ts.length cp) (.slice aq qs.length cq)) 37)).heap[b]? = w.heap[b]? := fun b hb => Below.heap_alloc w _ b hb
  have hK1 : Kept w w1 (FBlk (.slice ai its.length ci) (.slice ap ts.length cp) (.slice aq qs.length cq) qs) := by
    have hb := hbel1 0 (fun _ _ => Nat.zero_le _) (fun _ _ => Nat.zero_le _) (Nat.zero_le _)
    exact ⟨hb.os, hb.tape, hb.output, by omega, fun k hk ht => (hsame1 k (by omega) (fun e => ht (.inl e)) (fun e => ht (.inr (.inl e)))).trans (hA0 k hk)⟩
  have N1 : Blk w1 w.heap.size 37 (fcells nm now full wd room (.slice ai its.length ci) (.slice ap ts.length cp) (.slice aq qs.length cq)) := (hsame1 w.heap.size (by omega) (fun e => by have := (HLT.out _ (.inl e)).2; omega) (fun e => by have := (HLT.out _ (.inr (.inl e))).2; omega)).trans HN.out
  have P1 : PeersOwn w1 B (.slice aq qs.length cq) qs := HO.out.peers.same fun b hb => (hsame1 b (by have := (HLT.out b (.inr (.inr hb))).2; omega) (fun e => HO.out.apartI b e hb) (fun e => HO.out.apartP b e hb)).trans (hA0 b (HLT.out b (.inr (.inr hb))).2)
  have x7 : w1.cell? ⟨w.heap.size, 7, none⟩ = some (.slice aq qs.length cq) := N1.cell 7
  have HM2 := hid (HMP.out w1 P1)
  have HO1 := hid ho1
  have HK1 := hid hK1
  clear N1 P1 ho1 hsame1 hbel1 hK1 hA0
  go_wp2_with fail
  refine HM2.out.mono ?_
  rintro e w2 ⟨rfl, ho2, hK2⟩
  have HO2 := hid ho2
  have HK2 := hid hK2
  clear ho2 hK2
  go_wp2
  go_ret
  refine ⟨rfl, ⟨HO1.out.same (fun g e => HK2.out.block g (by have := (HLT.out g (.inl e)).2; omega) (HO.out.apartI g e)) (fun g e => HK2.out.block g (by have := (HLT.out g (.inr (.inl e))).2; omega) (HO.out.apartP g e)), HO2.out, fun g e hp => HO.out.apartI g e (pblk_marks hp), fun g e hp => HO.out.apartP g e (pblk_marks hp)⟩, HK1.out.trans (HK2.out.mono fun g h => .inr (.inr h))⟩
set_option maxRecDepth 100000 in
set_option maxHeartbeats 1000000 in
theorem heldFetch_any (nm : ByteArray) (now : Int) (full : Bool) (wd room : Int) (vi vp vq : Value) (ni np : Nat) (ps : Prs) (w : World) (hi : RdI w vi (marksI 1 ni)) (hp : Reads w vp (marks (1 + 2 * ni) np)) (hq : RdP w vq (marksP (1 + 2 * ni + np) ps)) (hl : 2 * ni + np + totP ps ≤ 4300000) :
    Calls Tryz.prog 37 #[fval nm now full wd room vi vp vq, .int .i64 1] w fun e w' => e = .returned (.int .i64 ((1 + 2 * ni + np + totP ps : Nat) : Int)) ∧ Below w.heap.size w w' := by
  have hA := (Below.refl w.heap.size w).alloc (Nat.le_refl _) (.cells (fcells nm now full wd room vi vp vq) 37)
  have HHS := hid (heldStore_any wd room vi vp ni np _ (hi.below hA) (hp.below hA) (by omega))
  have HHP := hid fun W h => heldPeerS_any vq (1 + 2 * ni + np) ps W h (by omega) (by omega)
  have HN := hid (Blk.new w 37 (fcells nm now full wd room vi vp vq))
  have HQ := hid (hq.below hA)
  have HA := hid hA
  obtain ⟨ai, ci, rfl, _⟩ := hi
  obtain ⟨ap, cp, rfl, _⟩ := hp.form
  obtain ⟨aq, cq, rfl, _⟩ := hq
  clear hp hA
  go_enter Tryz.func37, Tryz.ntmps37
  go_wp2_with fail
  refine HHS.out.mono ?_
  rintro e w1 ⟨rfl, hb1⟩
  have x7 : w1.cell? ⟨w.heap.size, 7, none⟩ = _ := (HN.out.below hb1).cell 7
  have HP1 := hid (HHP.out w1 (HQ.out.below hb1))
  have HB1 := hid (HA.out.trans (hb1.mono (by simp)))
  have hnn : ¬ (((1 + 2 * ni + np : Nat) : Int) < 0) := by omega
  clear hb1
  go_wp2_with fail
  refine HP1.out.mono ?_
  rintro e w2 ⟨rfl, hb2⟩
  have HB2 := hid (HB1.out.trans (hb2.mono HB1.out.size))
  have hnn2 : ¬ (((1 + 2 * ni + np + totP ps : Nat) : Int) < 0) := by omega
  clear hb2
  go_wp2
  go_ret
  exact ⟨rfl, HB2.out⟩
end Go.Proofs.YtlnkhbnbcmllaaaGreat
